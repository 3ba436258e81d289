/-
  The drawn regions of the reference's Crash.
-/
import Derived.Test.YtgbijkdfhkkieaaRR
import Derived.Laws.Tables
namespace Go.Proofs.Ytgbijkdfhkkieaa
open Go.RowKit Go.Maps Go.Lib
set_option linter.unusedVariables false
set_option linter.unusedSimpArgs false
theorem sz102 : (Try.prog.info? 102).map (·.size) = some 2 := by kernel_rfl
section
variable {w : World} {ops : Array Oper} {rest : List Oper} {o : Oper} {a : Act} {Q : Exit → Act → World → Prop} {K : Act → World → Prop} {E : Prop}
theorem step_store102 (hgd : o.guard = none) (x y : Operand) (ho : o.op = .store 102 x y)
    (g : Nat) (p1 p2 : Value) (hx : a.eval x = .pointer (some ⟨g, 0, none⟩)) (hy : a.eval y = .agg #[p1, p2]) (o1 : p1.oneCell' = true) (o2 : p2.oneCell' = true)
    (t : TypeId) (b0 b1 : Value) (hg : Bx w g t #[b0, b1]) (h : K (a.put o.dst undef) (w.setRow g #[p1, p2])) :
    if Region.wanted o (yielded ops a.tmps) = true then Oper.wp Try.prog o a w K Q else E := by
  have hw : Region.wanted o (yielded ops a.tmps) = true := by simp [Region.wanted, hgd]
  rw [if_pos hw]
  exact wp_store_row 102 x y ho g _ hx hy t _ hg (by rw [sz102]; rfl) rfl (by simp [o1, o2]) h
end
set_option maxHeartbeats 4000000 in
set_option maxRecDepth 100000 in
theorem reg55_5 (w : World) (y g off nF cF b od nD cD i x : Nat) (p1 p2 : Value) (j1 : (i : Int) < (nD : Int)) (j2 : (x : Int) < (nF : Int)) (c2 : w.cell? ⟨y, 2, none⟩ = some (.slice (some ⟨g, off, none⟩) nF cF)) (c3 : w.cell? ⟨y, 3, none⟩ = some (.slice (some ⟨b, od, none⟩) nD cD)) (ce : w.cell? ⟨b, od + i * 2 + 1, none⟩ = some (.int .i64 (x : Int))) (z1 : w.cell? ⟨g, off + x * 2, none⟩ = some p1) (z2 : w.cell? ⟨g, off + x * 2 + 1, none⟩ = some p2) (o1 : p1.oneCell' = true) (o2 : p2.oneCell' = true) (c2A : (w.alloc (.cells #[.slice none 0 0, .slice none 0 0] 102)).cell? ⟨y, 2, none⟩ = some (.slice (some ⟨g, off, none⟩) nF cF)) (c3A : (w.alloc (.cells #[.slice none 0 0, .slice none 0 0] 102)).cell? ⟨y, 3, none⟩ = some (.slice (some ⟨b, od, none⟩) nD cD)) (ceA : (w.alloc (.cells #[.slice none 0 0, .slice none 0 0] 102)).cell? ⟨b, od + i * 2 + 1, none⟩ = some (.int .i64 (x : Int))) (z1A : (w.alloc (.cells #[.slice none 0 0, .slice none 0 0] 102)).cell? ⟨g, off + x * 2, none⟩ = some p1) (z2A : (w.alloc (.cells #[.slice none 0 0, .slice none 0 0] 102)).cell? ⟨g, off + x * 2 + 1, none⟩ = some p2)
    (u1 u2 u3 u4 u6 u7 u8 u9 u10 u11 u12 u13 u14 u15 u16 u17 u18 u19 u20 u21 u22 u23 u24 u25 u26 u27 u28 u29 u30 u31 u32 u33 u34 u35 u36 u37 u38 u39 u40 u41 u42 u43 u44 u45 u46 u47 u48 u49 u50 u51 u52 u53 u54 u55 u56 u57 u58 u59 u60 u61 u62 u63 u64 u65 u66 u67 u68 u69 u70 u71 u72 u73 u74 u75 u76 u77 u78 u79 u80 u81 u82 u83 u84 u85 u86 u87 u88 u89 u90 u91 u92 u93 u94 u95 u96 u97 u98 u99 u100 u101 u102 u103 u104 u105 u106 u107 u108 u109 u110 u111 u112 u113 u114 u115 u116 u117 u118 u119 u120 u121 u122 u123 u124 u125 u126 u127 u128 u129 u130 u131 u132 u133 u134 u135 u136 u137 u138 u139 u140 u141 u142 u143 u144 u145 u146 u147 u148 u149 u150 u151 u152 u153 : Value) (Q : Exit → Act → World → Prop)
    (h : Q .normal { tmps := (List.toArray ((.pointer (some ⟨y, 0, none⟩) :: u1 :: u2 :: u3 :: u4 :: .int .i64 (i : Int) :: .pointer (some ⟨w.heap.size, 0, none⟩) :: u7 :: u8 :: u9 :: u10 :: u11 :: u12 :: u13 :: u14 :: u15 :: u16 :: u17 :: u18 :: u19 :: u20 :: u21 :: u22 :: u23 :: u24 :: u25 :: u26 :: u27 :: u28 :: u29 :: u30 :: u31 :: u32 :: u33 :: u34 :: u35 :: .pointer (some ⟨y, 0, none⟩) :: .pointer (some ⟨y, 0, none⟩) :: .pointer (some ⟨y, 2, none⟩) :: (.slice (some ⟨g, off, none⟩) nF cF) :: .pointer (some ⟨y, 0, none⟩) :: .pointer (some ⟨y, 0, none⟩) :: .pointer (some ⟨y, 3, none⟩) :: (.slice (some ⟨b, od, none⟩) nD cD) :: .int .i64 (i : Int) :: .pointer (some ⟨b, od + i * 2, none⟩) :: .pointer (some ⟨b, od + i * 2 + 1, none⟩) :: .int .i64 (x : Int) :: .pointer (some ⟨g, off + x * 2, none⟩) :: .agg #[p1, p2] :: u50 :: u51 :: u52 :: u53 :: u54 :: u55 :: u56 :: u57 :: u58 :: u59 :: u60 :: u61 :: u62 :: u63 :: u64 :: u65 :: u66 :: u67 :: u68 :: u69 :: u70 :: u71 :: u72 :: u73 :: u74 :: u75 :: u76 :: u77 :: u78 :: u79 :: u80 :: u81 :: u82 :: u83 :: u84 :: u85 :: u86 :: u87 :: u88 :: u89 :: u90 :: u91 :: u92 :: u93 :: u94 :: u95 :: u96 :: u97 :: u98 :: u99 :: u100 :: u101 :: u102 :: u103 :: u104 :: u105 :: u106 :: u107 :: u108 :: u109 :: u110 :: u111 :: u112 :: u113 :: u114 :: u115 :: u116 :: u117 :: u118 :: u119 :: u120 :: u121 :: u122 :: u123 :: u124 :: u125 :: u126 :: u127 :: u128 :: u129 :: u130 :: u131 :: u132 :: u133 :: u134 :: u135 :: u136 :: u137 :: u138 :: u139 :: u140 :: u141 :: u142 :: u143 :: u144 :: u145 :: u146 :: u147 :: u148 :: u149 :: u150 :: u151 :: u152 :: u153 :: []) : List Value)), defers := [] } ((w.alloc (.cells #[.slice none 0 0, .slice none 0 0] 102)).drew.setRow w.heap.size #[p1, p2])) :
    (Code.region 5 #[{ dst := some 36, op := Op.move (Operand.tmp 0), type := 38, pos := "ref.go:286", after := #[], guard := none }, { dst := some 37, op := Op.nilCheck (Operand.tmp 36), type := 0, pos := "ref.go:286", after := #[{ on := 0, ground := Ground.data }], guard := none }, { dst := some 38, op := Op.fieldAddr 88 (Operand.tmp 37) 2, type := 0, pos := "ref.go:286", after := #[{ on := 1, ground := Ground.data }], guard := none }, { dst := some 39, op := Op.load 85 (Operand.tmp 38), type := 85, pos := "ref.go:286", after := #[{ on := 2, ground := Ground.data }], guard := none }, { dst := some 40, op := Op.move (Operand.tmp 0), type := 38, pos := "ref.go:286", after := #[], guard := none }, { dst := some 41, op := Op.nilCheck (Operand.tmp 40), type := 0, pos := "ref.go:286", after := #[{ on := 4, ground := Ground.data }], guard := none }, { dst := some 42, op := Op.fieldAddr 88 (Operand.tmp 41) 3, type := 0, pos := "ref.go:286", after := #[{ on := 5, ground := Ground.data }], guard := none }, { dst := some 43, op := Op.load 86 (Operand.tmp 42), type := 86, pos := "ref.go:286", after := #[{ on := 6, ground := Ground.data }], guard := none }, { dst := some 44, op := Op.move (Operand.tmp 5), type := 3, pos := "ref.go:286", after := #[], guard := none }, { dst := some 45, op := Op.indexAddr 86 (Operand.tmp 43) (Operand.tmp 44), type := 0, pos := "ref.go:286", after := #[{ on := 7, ground := Ground.data }, { on := 8, ground := Ground.data }], guard := none }, { dst := some 46, op := Op.fieldAddr 105 (Operand.tmp 45) 1, type := 0, pos := "ref.go:286", after := #[{ on := 9, ground := Ground.data }], guard := none }, { dst := some 47, op := Op.load 3 (Operand.tmp 46), type := 3, pos := "ref.go:286", after := #[{ on := 10, ground := Ground.data }], guard := none }, { dst := some 48, op := Op.indexAddr 85 (Operand.tmp 39) (Operand.tmp 47), type := 0, pos := "ref.go:286", after := #[{ on := 3, ground := Ground.data }, { on := 11, ground := Ground.data }], guard := none }, { dst := some 49, op := Op.load 102 (Operand.tmp 48), type := 102, pos := "ref.go:286", after := #[{ on := 12, ground := Ground.data }], guard := none }, { dst := some 6, op := Op.alloc 102, type := 0, pos := "ref.go:286", after := #[], guard := none }, { dst := none, op := Op.store 102 (Operand.tmp 6) (Operand.tmp 49), type := 0, pos := "ref.go:286", after := #[{ on := 14, ground := Ground.data }, { on := 13, ground := Ground.data }, { on := 0, ground := Ground.phase }, { on := 1, ground := Ground.phase }, { on := 2, ground := Ground.phase }, { on := 3, ground := Ground.phase }, { on := 4, ground := Ground.phase }, { on := 5, ground := Ground.phase }, { on := 6, ground := Ground.phase }, { on := 7, ground := Ground.phase }, { on := 8, ground := Ground.phase }, { on := 9, ground := Ground.phase }, { on := 10, ground := Ground.phase }, { on := 11, ground := Ground.phase }, { on := 12, ground := Ground.phase }, { on := 13, ground := Ground.phase }, { on := 14, ground := Ground.phase }], guard := none }] true).wp Try.prog Q { tmps := (List.toArray ((.pointer (some ⟨y, 0, none⟩) :: u1 :: u2 :: u3 :: u4 :: .int .i64 (i : Int) :: u6 :: u7 :: u8 :: u9 :: u10 :: u11 :: u12 :: u13 :: u14 :: u15 :: u16 :: u17 :: u18 :: u19 :: u20 :: u21 :: u22 :: u23 :: u24 :: u25 :: u26 :: u27 :: u28 :: u29 :: u30 :: u31 :: u32 :: u33 :: u34 :: u35 :: u36 :: u37 :: u38 :: u39 :: u40 :: u41 :: u42 :: u43 :: u44 :: u45 :: u46 :: u47 :: u48 :: u49 :: u50 :: u51 :: u52 :: u53 :: u54 :: u55 :: u56 :: u57 :: u58 :: u59 :: u60 :: u61 :: u62 :: u63 :: u64 :: u65 :: u66 :: u67 :: u68 :: u69 :: u70 :: u71 :: u72 :: u73 :: u74 :: u75 :: u76 :: u77 :: u78 :: u79 :: u80 :: u81 :: u82 :: u83 :: u84 :: u85 :: u86 :: u87 :: u88 :: u89 :: u90 :: u91 :: u92 :: u93 :: u94 :: u95 :: u96 :: u97 :: u98 :: u99 :: u100 :: u101 :: u102 :: u103 :: u104 :: u105 :: u106 :: u107 :: u108 :: u109 :: u110 :: u111 :: u112 :: u113 :: u114 :: u115 :: u116 :: u117 :: u118 :: u119 :: u120 :: u121 :: u122 :: u123 :: u124 :: u125 :: u126 :: u127 :: u128 :: u129 :: u130 :: u131 :: u132 :: u133 :: u134 :: u135 :: u136 :: u137 :: u138 :: u139 :: u140 :: u141 :: u142 :: u143 :: u144 :: u145 :: u146 :: u147 :: u148 :: u149 :: u150 :: u151 :: u152 :: u153 :: []) : List Value)), defers := [] } w := by
  replace h := hide h
  refine wp_region_noPanic ?_
  refine wp_region_any (by kernel_rfl) ?_
  change wpAny _ _ _ _ _ _ _ (World.drew w)
  refine wpAny_take (i := 0) (oi := { dst := some 36, op := Op.move (Operand.tmp 0), type := 38, pos := "ref.go:286", after := #[], guard := none }) (v := ?_) rfl (by kernel_rfl) (by kernel_rfl) (by kernel_rfl) (fun _ _ _ h => h) (Or.inl ⟨by rfl, ?_⟩) ?_
  rotate_left
  · intro w'
    go_simp
    try with_reducible rfl
  try simp only [Act.put, List.setIfInBounds_toArray, List.set_cons_zero, List.set_cons_succ]
  refine wpAny_take (i := 1) (oi := { dst := some 37, op := Op.nilCheck (Operand.tmp 36), type := 0, pos := "ref.go:286", after := #[{ on := 0, ground := Ground.data }], guard := none }) (v := ?_) rfl (by kernel_rfl) (by kernel_rfl) (by kernel_rfl) (fun _ _ _ h => h) (Or.inl ⟨by rfl, ?_⟩) ?_
  rotate_left
  · intro w'
    go_simp
    try with_reducible rfl
  try simp only [Act.put, List.setIfInBounds_toArray, List.set_cons_zero, List.set_cons_succ]
  refine wpAny_take (i := 2) (oi := { dst := some 38, op := Op.fieldAddr 88 (Operand.tmp 37) 2, type := 0, pos := "ref.go:286", after := #[{ on := 1, ground := Ground.data }], guard := none }) (v := ?_) rfl (by kernel_rfl) (by kernel_rfl) (by kernel_rfl) (fun _ _ _ h => h) (Or.inl ⟨by rfl, ?_⟩) ?_
  rotate_left
  · intro w'
    go_simp
    try with_reducible rfl
  try simp only [Act.put, List.setIfInBounds_toArray, List.set_cons_zero, List.set_cons_succ]
  refine wpAny_take (i := 4) (oi := { dst := some 40, op := Op.move (Operand.tmp 0), type := 38, pos := "ref.go:286", after := #[], guard := none }) (v := ?_) rfl (by kernel_rfl) (by kernel_rfl) (by kernel_rfl) (fun _ _ _ h => h) (Or.inl ⟨by rfl, ?_⟩) ?_
  rotate_left
  · intro w'
    go_simp
    try with_reducible rfl
  try simp only [Act.put, List.setIfInBounds_toArray, List.set_cons_zero, List.set_cons_succ]
  refine wpAny_take (i := 5) (oi := { dst := some 41, op := Op.nilCheck (Operand.tmp 40), type := 0, pos := "ref.go:286", after := #[{ on := 4, ground := Ground.data }], guard := none }) (v := ?_) rfl (by kernel_rfl) (by kernel_rfl) (by kernel_rfl) (fun _ _ _ h => h) (Or.inl ⟨by rfl, ?_⟩) ?_
  rotate_left
  · intro w'
    go_simp
    try with_reducible rfl
  try simp only [Act.put, List.setIfInBounds_toArray, List.set_cons_zero, List.set_cons_succ]
  refine wpAny_take (i := 6) (oi := { dst := some 42, op := Op.fieldAddr 88 (Operand.tmp 41) 3, type := 0, pos := "ref.go:286", after := #[{ on := 5, ground := Ground.data }], guard := none }) (v := ?_) rfl (by kernel_rfl) (by kernel_rfl) (by kernel_rfl) (fun _ _ _ h => h) (Or.inl ⟨by rfl, ?_⟩) ?_
  rotate_left
  · intro w'
    go_simp
    try with_reducible rfl
  try simp only [Act.put, List.setIfInBounds_toArray, List.set_cons_zero, List.set_cons_succ]
  refine wpAny_take (i := 8) (oi := { dst := some 44, op := Op.move (Operand.tmp 5), type := 3, pos := "ref.go:286", after := #[], guard := none }) (v := ?_) rfl (by kernel_rfl) (by kernel_rfl) (by kernel_rfl) (fun _ _ _ h => h) (Or.inl ⟨by rfl, ?_⟩) ?_
  rotate_left
  · intro w'
    go_simp
    try with_reducible rfl
  try simp only [Act.put, List.setIfInBounds_toArray, List.set_cons_zero, List.set_cons_succ]
  refine wpAny_ready (rs := [3, 7, 14]) (by kernel_rfl) (by simp) ?_
  refine (AllReady.cons (o := { dst := some 39, op := Op.load 85 (Operand.tmp 38), type := 85, pos := "ref.go:286", after := #[{ on := 2, ground := Ground.data }], guard := none }) rfl (fun K3 hK3 => ?_) (AllReady.cons (o := { dst := some 43, op := Op.load 86 (Operand.tmp 42), type := 86, pos := "ref.go:286", after := #[{ on := 6, ground := Ground.data }], guard := none }) rfl (fun K7 hK7 => ?_) (AllReady.cons (o := { dst := some 6, op := Op.alloc 102, type := 0, pos := "ref.go:286", after := #[], guard := none }) rfl (fun K14 hK14 => ?_) AllReady.nil)))
  · go_simp
    refine hK3 _ _ ?_
    clear hK3 K3
    try simp only [Act.put, List.setIfInBounds_toArray, List.set_cons_zero, List.set_cons_succ]
    refine wpAny_ready (rs := [7, 14]) (by kernel_rfl) (by simp) ?_
    refine (AllReady.cons (o := { dst := some 43, op := Op.load 86 (Operand.tmp 42), type := 86, pos := "ref.go:286", after := #[{ on := 6, ground := Ground.data }], guard := none }) rfl (fun K7 hK7 => ?_) (AllReady.cons (o := { dst := some 6, op := Op.alloc 102, type := 0, pos := "ref.go:286", after := #[], guard := none }) rfl (fun K14 hK14 => ?_) AllReady.nil))
    · go_simp
      refine hK7 _ _ ?_
      clear hK7 K7
      try simp only [Act.put, List.setIfInBounds_toArray, List.set_cons_zero, List.set_cons_succ]
      refine wpAny_take (i := 9) (oi := { dst := some 45, op := Op.indexAddr 86 (Operand.tmp 43) (Operand.tmp 44), type := 0, pos := "ref.go:286", after := #[{ on := 7, ground := Ground.data }, { on := 8, ground := Ground.data }], guard := none }) (v := ?_) rfl (by kernel_rfl) (by kernel_rfl) (by kernel_rfl) (fun _ _ _ h => h) (Or.inl ⟨by rfl, ?_⟩) ?_
      rotate_left
      · intro w'
        go_simp
        try with_reducible rfl
      try simp only [Act.put, List.setIfInBounds_toArray, List.set_cons_zero, List.set_cons_succ]
      refine wpAny_take (i := 10) (oi := { dst := some 46, op := Op.fieldAddr 105 (Operand.tmp 45) 1, type := 0, pos := "ref.go:286", after := #[{ on := 9, ground := Ground.data }], guard := none }) (v := ?_) rfl (by kernel_rfl) (by kernel_rfl) (by kernel_rfl) (fun _ _ _ h => h) (Or.inl ⟨by rfl, ?_⟩) ?_
      rotate_left
      · intro w'
        go_simp
        try with_reducible rfl
      try simp only [Act.put, List.setIfInBounds_toArray, List.set_cons_zero, List.set_cons_succ]
      refine wpAny_ready (rs := [11, 14]) (by kernel_rfl) (by simp) ?_
      refine (AllReady.cons (o := { dst := some 47, op := Op.load 3 (Operand.tmp 46), type := 3, pos := "ref.go:286", after := #[{ on := 10, ground := Ground.data }], guard := none }) rfl (fun K11 hK11 => ?_) (AllReady.cons (o := { dst := some 6, op := Op.alloc 102, type := 0, pos := "ref.go:286", after := #[], guard := none }) rfl (fun K14 hK14 => ?_) AllReady.nil))
      · go_simp
        refine hK11 _ _ ?_
        clear hK11 K11
        try simp only [Act.put, List.setIfInBounds_toArray, List.set_cons_zero, List.set_cons_succ]
        refine wpAny_take (i := 12) (oi := { dst := some 48, op := Op.indexAddr 85 (Operand.tmp 39) (Operand.tmp 47), type := 0, pos := "ref.go:286", after := #[{ on := 3, ground := Ground.data }, { on := 11, ground := Ground.data }], guard := none }) (v := ?_) rfl (by kernel_rfl) (by kernel_rfl) (by kernel_rfl) (fun _ _ _ h => h) (Or.inl ⟨by rfl, ?_⟩) ?_
        rotate_left
        · intro w'
          go_simp
          try with_reducible rfl
        try simp only [Act.put, List.setIfInBounds_toArray, List.set_cons_zero, List.set_cons_succ]
        refine wpAny_ready (rs := [13, 14]) (by kernel_rfl) (by simp) ?_
        refine (AllReady.cons (o := { dst := some 49, op := Op.load 102 (Operand.tmp 48), type := 102, pos := "ref.go:286", after := #[{ on := 12, ground := Ground.data }], guard := none }) rfl (fun K13 hK13 => ?_) (AllReady.cons (o := { dst := some 6, op := Op.alloc 102, type := 0, pos := "ref.go:286", after := #[], guard := none }) rfl (fun K14 hK14 => ?_) AllReady.nil))
        · go_simp
          refine hK13 _ _ ?_
          clear hK13 K13
          try simp only [Act.put, List.setIfInBounds_toArray, List.set_cons_zero, List.set_cons_succ]
          refine wpAny_ready (rs := [14]) (by kernel_rfl) (by simp) ?_
          refine (AllReady.cons (o := { dst := some 6, op := Op.alloc 102, type := 0, pos := "ref.go:286", after := #[], guard := none }) rfl (fun K14 hK14 => ?_) AllReady.nil)
          go_simp
          refine hK14 _ _ ?_
          clear hK14 K14
          try simp only [Act.put, List.setIfInBounds_toArray, List.set_cons_zero, List.set_cons_succ]
          refine wpAny_ready (rs := [15]) (by kernel_rfl) (by simp) ?_
          refine (AllReady.cons (o := { dst := none, op := Op.store 102 (Operand.tmp 6) (Operand.tmp 49), type := 0, pos := "ref.go:286", after := #[{ on := 14, ground := Ground.data }, { on := 13, ground := Ground.data }, { on := 0, ground := Ground.phase }, { on := 1, ground := Ground.phase }, { on := 2, ground := Ground.phase }, { on := 3, ground := Ground.phase }, { on := 4, ground := Ground.phase }, { on := 5, ground := Ground.phase }, { on := 6, ground := Ground.phase }, { on := 7, ground := Ground.phase }, { on := 8, ground := Ground.phase }, { on := 9, ground := Ground.phase }, { on := 10, ground := Ground.phase }, { on := 11, ground := Ground.phase }, { on := 12, ground := Ground.phase }, { on := 13, ground := Ground.phase }, { on := 14, ground := Ground.phase }], guard := none }) rfl (fun K15 hK15 => ?_) AllReady.nil)
          refine step_store102 rfl (.tmp 6) (.tmp 49) rfl w.heap.size p1 p2 rfl rfl o1 o2 102 _ _ (Bx.new w 102 _) (hK15 _ _ ?_)
          clear hK15 K15
          try simp only [Act.put, List.setIfInBounds_toArray, List.set_cons_zero, List.set_cons_succ]
          refine wpAny_done (by kernel_rfl) ?_ _
          refine NoPanic.normal ?_
          exact h.out
        · go_simp
          refine hK14 _ _ ?_
          clear hK14 K14
          try simp only [Act.put, List.setIfInBounds_toArray, List.set_cons_zero, List.set_cons_succ]
          refine wpAny_ready (rs := [13]) (by kernel_rfl) (by simp) ?_
          refine (AllReady.cons (o := { dst := some 49, op := Op.load 102 (Operand.tmp 48), type := 102, pos := "ref.go:286", after := #[{ on := 12, ground := Ground.data }], guard := none }) rfl (fun K13 hK13 => ?_) AllReady.nil)
          go_simp
          refine hK13 _ _ ?_
          clear hK13 K13
          try simp only [Act.put, List.setIfInBounds_toArray, List.set_cons_zero, List.set_cons_succ]
          refine wpAny_ready (rs := [15]) (by kernel_rfl) (by simp) ?_
          refine (AllReady.cons (o := { dst := none, op := Op.store 102 (Operand.tmp 6) (Operand.tmp 49), type := 0, pos := "ref.go:286", after := #[{ on := 14, ground := Ground.data }, { on := 13, ground := Ground.data }, { on := 0, ground := Ground.phase }, { on := 1, ground := Ground.phase }, { on := 2, ground := Ground.phase }, { on := 3, ground := Ground.phase }, { on := 4, ground := Ground.phase }, { on := 5, ground := Ground.phase }, { on := 6, ground := Ground.phase }, { on := 7, ground := Ground.phase }, { on := 8, ground := Ground.phase }, { on := 9, ground := Ground.phase }, { on := 10, ground := Ground.phase }, { on := 11, ground := Ground.phase }, { on := 12, ground := Ground.phase }, { on := 13, ground := Ground.phase }, { on := 14, ground := Ground.phase }], guard := none }) rfl (fun K15 hK15 => ?_) AllReady.nil)
          refine step_store102 rfl (.tmp 6) (.tmp 49) rfl w.heap.size p1 p2 rfl rfl o1 o2 102 _ _ (Bx.new w 102 _) (hK15 _ _ ?_)
          clear hK15 K15
          try simp only [Act.put, List.setIfInBounds_toArray, List.set_cons_zero, List.set_cons_succ]
          refine wpAny_done (by kernel_rfl) ?_ _
          refine NoPanic.normal ?_
          exact h.out
      · go_simp
        refine hK14 _ _ ?_
        clear hK14 K14
        try simp only [Act.put, List.setIfInBounds_toArray, List.set_cons_zero, List.set_cons_succ]
        refine wpAny_ready (rs := [11]) (by kernel_rfl) (by simp) ?_
        refine (AllReady.cons (o := { dst := some 47, op := Op.load 3 (Operand.tmp 46), type := 3, pos := "ref.go:286", after := #[{ on := 10, ground := Ground.data }], guard := none }) rfl (fun K11 hK11 => ?_) AllReady.nil)
        go_simp
        refine hK11 _ _ ?_
        clear hK11 K11
        try simp only [Act.put, List.setIfInBounds_toArray, List.set_cons_zero, List.set_cons_succ]
        refine wpAny_take (i := 12) (oi := { dst := some 48, op := Op.indexAddr 85 (Operand.tmp 39) (Operand.tmp 47), type := 0, pos := "ref.go:286", after := #[{ on := 3, ground := Ground.data }, { on := 11, ground := Ground.data }], guard := none }) (v := ?_) rfl (by kernel_rfl) (by kernel_rfl) (by kernel_rfl) (fun _ _ _ h => h) (Or.inl ⟨by rfl, ?_⟩) ?_
        rotate_left
        · intro w'
          go_simp
          try with_reducible rfl
        try simp only [Act.put, List.setIfInBounds_toArray, List.set_cons_zero, List.set_cons_succ]
        refine wpAny_ready (rs := [13]) (by kernel_rfl) (by simp) ?_
        refine (AllReady.cons (o := { dst := some 49, op := Op.load 102 (Operand.tmp 48), type := 102, pos := "ref.go:286", after := #[{ on := 12, ground := Ground.data }], guard := none }) rfl (fun K13 hK13 => ?_) AllReady.nil)
        go_simp
        refine hK13 _ _ ?_
        clear hK13 K13
        try simp only [Act.put, List.setIfInBounds_toArray, List.set_cons_zero, List.set_cons_succ]
        refine wpAny_ready (rs := [15]) (by kernel_rfl) (by simp) ?_
        refine (AllReady.cons (o := { dst := none, op := Op.store 102 (Operand.tmp 6) (Operand.tmp 49), type := 0, pos := "ref.go:286", after := #[{ on := 14, ground := Ground.data }, { on := 13, ground := Ground.data }, { on := 0, ground := Ground.phase }, { on := 1, ground := Ground.phase }, { on := 2, ground := Ground.phase }, { on := 3, ground := Ground.phase }, { on := 4, ground := Ground.phase }, { on := 5, ground := Ground.phase }, { on := 6, ground := Ground.phase }, { on := 7, ground := Ground.phase }, { on := 8, ground := Ground.phase }, { on := 9, ground := Ground.phase }, { on := 10, ground := Ground.phase }, { on := 11, ground := Ground.phase }, { on := 12, ground := Ground.phase }, { on := 13, ground := Ground.phase }, { on := 14, ground := Ground.phase }], guard := none }) rfl (fun K15 hK15 => ?_) AllReady.nil)
        refine step_store102 rfl (.tmp 6) (.tmp 49) rfl w.heap.size p1 p2 rfl rfl o1 o2 102 _ _ (Bx.new w 102 _) (hK15 _ _ ?_)
        clear hK15 K15
        try simp only [Act.put, List.setIfInBounds_toArray, List.set_cons_zero, List.set_cons_succ]
        refine wpAny_done (by kernel_rfl) ?_ _
        refine NoPanic.normal ?_
        exact h.out
    · go_simp
      refine hK14 _ _ ?_
      clear hK14 K14
      try simp only [Act.put, List.setIfInBounds_toArray, List.set_cons_zero, List.set_cons_succ]
      refine wpAny_ready (rs := [7]) (by kernel_rfl) (by simp) ?_
      refine (AllReady.cons (o := { dst := some 43, op := Op.load 86 (Operand.tmp 42), type := 86, pos := "ref.go:286", after := #[{ on := 6, ground := Ground.data }], guard := none }) rfl (fun K7 hK7 => ?_) AllReady.nil)
      go_simp
      refine hK7 _ _ ?_
      clear hK7 K7
      try simp only [Act.put, List.setIfInBounds_toArray, List.set_cons_zero, List.set_cons_succ]
      refine wpAny_take (i := 9) (oi := { dst := some 45, op := Op.indexAddr 86 (Operand.tmp 43) (Operand.tmp 44), type := 0, pos := "ref.go:286", after := #[{ on := 7, ground := Ground.data }, { on := 8, ground := Ground.data }], guard := none }) (v := ?_) rfl (by kernel_rfl) (by kernel_rfl) (by kernel_rfl) (fun _ _ _ h => h) (Or.inl ⟨by rfl, ?_⟩) ?_
      rotate_left
      · intro w'
        go_simp
        try with_reducible rfl
      try simp only [Act.put, List.setIfInBounds_toArray, List.set_cons_zero, List.set_cons_succ]
      refine wpAny_take (i := 10) (oi := { dst := some 46, op := Op.fieldAddr 105 (Operand.tmp 45) 1, type := 0, pos := "ref.go:286", after := #[{ on := 9, ground := Ground.data }], guard := none }) (v := ?_) rfl (by kernel_rfl) (by kernel_rfl) (by kernel_rfl) (fun _ _ _ h => h) (Or.inl ⟨by rfl, ?_⟩) ?_
      rotate_left
      · intro w'
        go_simp
        try with_reducible rfl
      try simp only [Act.put, List.setIfInBounds_toArray, List.set_cons_zero, List.set_cons_succ]
      refine wpAny_ready (rs := [11]) (by kernel_rfl) (by simp) ?_
      refine (AllReady.cons (o := { dst := some 47, op := Op.load 3 (Operand.tmp 46), type := 3, pos := "ref.go:286", after := #[{ on := 10, ground := Ground.data }], guard := none }) rfl (fun K11 hK11 => ?_) AllReady.nil)
      go_simp
      refine hK11 _ _ ?_
      clear hK11 K11
      try simp only [Act.put, List.setIfInBounds_toArray, List.set_cons_zero, List.set_cons_succ]
      refine wpAny_take (i := 12) (oi := { dst := some 48, op := Op.indexAddr 85 (Operand.tmp 39) (Operand.tmp 47), type := 0, pos := "ref.go:286", after := #[{ on := 3, ground := Ground.data }, { on := 11, ground := Ground.data }], guard := none }) (v := ?_) rfl (by kernel_rfl) (by kernel_rfl) (by kernel_rfl) (fun _ _ _ h => h) (Or.inl ⟨by rfl, ?_⟩) ?_
      rotate_left
      · intro w'
        go_simp
        try with_reducible rfl
      try simp only [Act.put, List.setIfInBounds_toArray, List.set_cons_zero, List.set_cons_succ]
      refine wpAny_ready (rs := [13]) (by kernel_rfl) (by simp) ?_
      refine (AllReady.cons (o := { dst := some 49, op := Op.load 102 (Operand.tmp 48), type := 102, pos := "ref.go:286", after := #[{ on := 12, ground := Ground.data }], guard := none }) rfl (fun K13 hK13 => ?_) AllReady.nil)
      go_simp
      refine hK13 _ _ ?_
      clear hK13 K13
      try simp only [Act.put, List.setIfInBounds_toArray, List.set_cons_zero, List.set_cons_succ]
      refine wpAny_ready (rs := [15]) (by kernel_rfl) (by simp) ?_
      refine (AllReady.cons (o := { dst := none, op := Op.store 102 (Operand.tmp 6) (Operand.tmp 49), type := 0, pos := "ref.go:286", after := #[{ on := 14, ground := Ground.data }, { on := 13, ground := Ground.data }, { on := 0, ground := Ground.phase }, { on := 1, ground := Ground.phase }, { on := 2, ground := Ground.phase }, { on := 3, ground := Ground.phase }, { on := 4, ground := Ground.phase }, { on := 5, ground := Ground.phase }, { on := 6, ground := Ground.phase }, { on := 7, ground := Ground.phase }, { on := 8, ground := Ground.phase }, { on := 9, ground := Ground.phase }, { on := 10, ground := Ground.phase }, { on := 11, ground := Ground.phase }, { on := 12, ground := Ground.phase }, { on := 13, ground := Ground.phase }, { on := 14, ground := Ground.phase }], guard := none }) rfl (fun K15 hK15 => ?_) AllReady.nil)
      refine step_store102 rfl (.tmp 6) (.tmp 49) rfl w.heap.size p1 p2 rfl rfl o1 o2 102 _ _ (Bx.new w 102 _) (hK15 _ _ ?_)
      clear hK15 K15
      try simp only [Act.put, List.setIfInBounds_toArray, List.set_cons_zero, List.set_cons_succ]
      refine wpAny_done (by kernel_rfl) ?_ _
      refine NoPanic.normal ?_
      exact h.out
  · go_simp
    refine hK7 _ _ ?_
    clear hK7 K7
    try simp only [Act.put, List.setIfInBounds_toArray, List.set_cons_zero, List.set_cons_succ]
    refine wpAny_take (i := 9) (oi := { dst := some 45, op := Op.indexAddr 86 (Operand.tmp 43) (Operand.tmp 44), type := 0, pos := "ref.go:286", after := #[{ on := 7, ground := Ground.data }, { on := 8, ground := Ground.data }], guard := none }) (v := ?_) rfl (by kernel_rfl) (by kernel_rfl) (by kernel_rfl) (fun _ _ _ h => h) (Or.inl ⟨by rfl, ?_⟩) ?_
    rotate_left
    · intro w'
      go_simp
      try with_reducible rfl
    try simp only [Act.put, List.setIfInBounds_toArray, List.set_cons_zero, List.set_cons_succ]
    refine wpAny_take (i := 10) (oi := { dst := some 46, op := Op.fieldAddr 105 (Operand.tmp 45) 1, type := 0, pos := "ref.go:286", after := #[{ on := 9, ground := Ground.data }], guard := none }) (v := ?_) rfl (by kernel_rfl) (by kernel_rfl) (by kernel_rfl) (fun _ _ _ h => h) (Or.inl ⟨by rfl, ?_⟩) ?_
    rotate_left
    · intro w'
      go_simp
      try with_reducible rfl
    try simp only [Act.put, List.setIfInBounds_toArray, List.set_cons_zero, List.set_cons_succ]
    refine wpAny_ready (rs := [3, 11, 14]) (by kernel_rfl) (by simp) ?_
    refine (AllReady.cons (o := { dst := some 39, op := Op.load 85 (Operand.tmp 38), type := 85, pos := "ref.go:286", after := #[{ on := 2, ground := Ground.data }], guard := none }) rfl (fun K3 hK3 => ?_) (AllReady.cons (o := { dst := some 47, op := Op.load 3 (Operand.tmp 46), type := 3, pos := "ref.go:286", after := #[{ on := 10, ground := Ground.data }], guard := none }) rfl (fun K11 hK11 => ?_) (AllReady.cons (o := { dst := some 6, op := Op.alloc 102, type := 0, pos := "ref.go:286", after := #[], guard := none }) rfl (fun K14 hK14 => ?_) AllReady.nil)))
    · go_simp
      refine hK3 _ _ ?_
      clear hK3 K3
      try simp only [Act.put, List.setIfInBounds_toArray, List.set_cons_zero, List.set_cons_succ]
      refine wpAny_ready (rs := [11, 14]) (by kernel_rfl) (by simp) ?_
      refine (AllReady.cons (o := { dst := some 47, op := Op.load 3 (Operand.tmp 46), type := 3, pos := "ref.go:286", after := #[{ on := 10, ground := Ground.data }], guard := none }) rfl (fun K11 hK11 => ?_) (AllReady.cons (o := { dst := some 6, op := Op.alloc 102, type := 0, pos := "ref.go:286", after := #[], guard := none }) rfl (fun K14 hK14 => ?_) AllReady.nil))
      · go_simp
        refine hK11 _ _ ?_
        clear hK11 K11
        try simp only [Act.put, List.setIfInBounds_toArray, List.set_cons_zero, List.set_cons_succ]
        refine wpAny_take (i := 12) (oi := { dst := some 48, op := Op.indexAddr 85 (Operand.tmp 39) (Operand.tmp 47), type := 0, pos := "ref.go:286", after := #[{ on := 3, ground := Ground.data }, { on := 11, ground := Ground.data }], guard := none }) (v := ?_) rfl (by kernel_rfl) (by kernel_rfl) (by kernel_rfl) (fun _ _ _ h => h) (Or.inl ⟨by rfl, ?_⟩) ?_
        rotate_left
        · intro w'
          go_simp
          try with_reducible rfl
        try simp only [Act.put, List.setIfInBounds_toArray, List.set_cons_zero, List.set_cons_succ]
        refine wpAny_ready (rs := [13, 14]) (by kernel_rfl) (by simp) ?_
        refine (AllReady.cons (o := { dst := some 49, op := Op.load 102 (Operand.tmp 48), type := 102, pos := "ref.go:286", after := #[{ on := 12, ground := Ground.data }], guard := none }) rfl (fun K13 hK13 => ?_) (AllReady.cons (o := { dst := some 6, op := Op.alloc 102, type := 0, pos := "ref.go:286", after := #[], guard := none }) rfl (fun K14 hK14 => ?_) AllReady.nil))
        · go_simp
          refine hK13 _ _ ?_
          clear hK13 K13
          try simp only [Act.put, List.setIfInBounds_toArray, List.set_cons_zero, List.set_cons_succ]
          refine wpAny_ready (rs := [14]) (by kernel_rfl) (by simp) ?_
          refine (AllReady.cons (o := { dst := some 6, op := Op.alloc 102, type := 0, pos := "ref.go:286", after := #[], guard := none }) rfl (fun K14 hK14 => ?_) AllReady.nil)
          go_simp
          refine hK14 _ _ ?_
          clear hK14 K14
          try simp only [Act.put, List.setIfInBounds_toArray, List.set_cons_zero, List.set_cons_succ]
          refine wpAny_ready (rs := [15]) (by kernel_rfl) (by simp) ?_
          refine (AllReady.cons (o := { dst := none, op := Op.store 102 (Operand.tmp 6) (Operand.tmp 49), type := 0, pos := "ref.go:286", after := #[{ on := 14, ground := Ground.data }, { on := 13, ground := Ground.data }, { on := 0, ground := Ground.phase }, { on := 1, ground := Ground.phase }, { on := 2, ground := Ground.phase }, { on := 3, ground := Ground.phase }, { on := 4, ground := Ground.phase }, { on := 5, ground := Ground.phase }, { on := 6, ground := Ground.phase }, { on := 7, ground := Ground.phase }, { on := 8, ground := Ground.phase }, { on := 9, ground := Ground.phase }, { on := 10, ground := Ground.phase }, { on := 11, ground := Ground.phase }, { on := 12, ground := Ground.phase }, { on := 13, ground := Ground.phase }, { on := 14, ground := Ground.phase }], guard := none }) rfl (fun K15 hK15 => ?_) AllReady.nil)
          refine step_store102 rfl (.tmp 6) (.tmp 49) rfl w.heap.size p1 p2 rfl rfl o1 o2 102 _ _ (Bx.new w 102 _) (hK15 _ _ ?_)
          clear hK15 K15
          try simp only [Act.put, List.setIfInBounds_toArray, List.set_cons_zero, List.set_cons_succ]
          refine wpAny_done (by kernel_rfl) ?_ _
          refine NoPanic.normal ?_
          exact h.out
        · go_simp
          refine hK14 _ _ ?_
          clear hK14 K14
          try simp only [Act.put, List.setIfInBounds_toArray, List.set_cons_zero, List.set_cons_succ]
          refine wpAny_ready (rs := [13]) (by kernel_rfl) (by simp) ?_
          refine (AllReady.cons (o := { dst := some 49, op := Op.load 102 (Operand.tmp 48), type := 102, pos := "ref.go:286", after := #[{ on := 12, ground := Ground.data }], guard := none }) rfl (fun K13 hK13 => ?_) AllReady.nil)
          go_simp
          refine hK13 _ _ ?_
          clear hK13 K13
          try simp only [Act.put, List.setIfInBounds_toArray, List.set_cons_zero, List.set_cons_succ]
          refine wpAny_ready (rs := [15]) (by kernel_rfl) (by simp) ?_
          refine (AllReady.cons (o := { dst := none, op := Op.store 102 (Operand.tmp 6) (Operand.tmp 49), type := 0, pos := "ref.go:286", after := #[{ on := 14, ground := Ground.data }, { on := 13, ground := Ground.data }, { on := 0, ground := Ground.phase }, { on := 1, ground := Ground.phase }, { on := 2, ground := Ground.phase }, { on := 3, ground := Ground.phase }, { on := 4, ground := Ground.phase }, { on := 5, ground := Ground.phase }, { on := 6, ground := Ground.phase }, { on := 7, ground := Ground.phase }, { on := 8, ground := Ground.phase }, { on := 9, ground := Ground.phase }, { on := 10, ground := Ground.phase }, { on := 11, ground := Ground.phase }, { on := 12, ground := Ground.phase }, { on := 13, ground := Ground.phase }, { on := 14, ground := Ground.phase }], guard := none }) rfl (fun K15 hK15 => ?_) AllReady.nil)
          refine step_store102 rfl (.tmp 6) (.tmp 49) rfl w.heap.size p1 p2 rfl rfl o1 o2 102 _ _ (Bx.new w 102 _) (hK15 _ _ ?_)
          clear hK15 K15
          try simp only [Act.put, List.setIfInBounds_toArray, List.set_cons_zero, List.set_cons_succ]
          refine wpAny_done (by kernel_rfl) ?_ _
          refine NoPanic.normal ?_
          exact h.out
      · go_simp
        refine hK14 _ _ ?_
        clear hK14 K14
        try simp only [Act.put, List.setIfInBounds_toArray, List.set_cons_zero, List.set_cons_succ]
        refine wpAny_ready (rs := [11]) (by kernel_rfl) (by simp) ?_
        refine (AllReady.cons (o := { dst := some 47, op := Op.load 3 (Operand.tmp 46), type := 3, pos := "ref.go:286", after := #[{ on := 10, ground := Ground.data }], guard := none }) rfl (fun K11 hK11 => ?_) AllReady.nil)
        go_simp
        refine hK11 _ _ ?_
        clear hK11 K11
        try simp only [Act.put, List.setIfInBounds_toArray, List.set_cons_zero, List.set_cons_succ]
        refine wpAny_take (i := 12) (oi := { dst := some 48, op := Op.indexAddr 85 (Operand.tmp 39) (Operand.tmp 47), type := 0, pos := "ref.go:286", after := #[{ on := 3, ground := Ground.data }, { on := 11, ground := Ground.data }], guard := none }) (v := ?_) rfl (by kernel_rfl) (by kernel_rfl) (by kernel_rfl) (fun _ _ _ h => h) (Or.inl ⟨by rfl, ?_⟩) ?_
        rotate_left
        · intro w'
          go_simp
          try with_reducible rfl
        try simp only [Act.put, List.setIfInBounds_toArray, List.set_cons_zero, List.set_cons_succ]
        refine wpAny_ready (rs := [13]) (by kernel_rfl) (by simp) ?_
        refine (AllReady.cons (o := { dst := some 49, op := Op.load 102 (Operand.tmp 48), type := 102, pos := "ref.go:286", after := #[{ on := 12, ground := Ground.data }], guard := none }) rfl (fun K13 hK13 => ?_) AllReady.nil)
        go_simp
        refine hK13 _ _ ?_
        clear hK13 K13
        try simp only [Act.put, List.setIfInBounds_toArray, List.set_cons_zero, List.set_cons_succ]
        refine wpAny_ready (rs := [15]) (by kernel_rfl) (by simp) ?_
        refine (AllReady.cons (o := { dst := none, op := Op.store 102 (Operand.tmp 6) (Operand.tmp 49), type := 0, pos := "ref.go:286", after := #[{ on := 14, ground := Ground.data }, { on := 13, ground := Ground.data }, { on := 0, ground := Ground.phase }, { on := 1, ground := Ground.phase }, { on := 2, ground := Ground.phase }, { on := 3, ground := Ground.phase }, { on := 4, ground := Ground.phase }, { on := 5, ground := Ground.phase }, { on := 6, ground := Ground.phase }, { on := 7, ground := Ground.phase }, { on := 8, ground := Ground.phase }, { on := 9, ground := Ground.phase }, { on := 10, ground := Ground.phase }, { on := 11, ground := Ground.phase }, { on := 12, ground := Ground.phase }, { on := 13, ground := Ground.phase }, { on := 14, ground := Ground.phase }], guard := none }) rfl (fun K15 hK15 => ?_) AllReady.nil)
        refine step_store102 rfl (.tmp 6) (.tmp 49) rfl w.heap.size p1 p2 rfl rfl o1 o2 102 _ _ (Bx.new w 102 _) (hK15 _ _ ?_)
        clear hK15 K15
        try simp only [Act.put, List.setIfInBounds_toArray, List.set_cons_zero, List.set_cons_succ]
        refine wpAny_done (by kernel_rfl) ?_ _
        refine NoPanic.normal ?_
        exact h.out
    · go_simp
      refine hK11 _ _ ?_
      clear hK11 K11
      try simp only [Act.put, List.setIfInBounds_toArray, List.set_cons_zero, List.set_cons_succ]
      refine wpAny_ready (rs := [3, 14]) (by kernel_rfl) (by simp) ?_
      refine (AllReady.cons (o := { dst := some 39, op := Op.load 85 (Operand.tmp 38), type := 85, pos := "ref.go:286", after := #[{ on := 2, ground := Ground.data }], guard := none }) rfl (fun K3 hK3 => ?_) (AllReady.cons (o := { dst := some 6, op := Op.alloc 102, type := 0, pos := "ref.go:286", after := #[], guard := none }) rfl (fun K14 hK14 => ?_) AllReady.nil))
      · go_simp
        refine hK3 _ _ ?_
        clear hK3 K3
        try simp only [Act.put, List.setIfInBounds_toArray, List.set_cons_zero, List.set_cons_succ]
        refine wpAny_take (i := 12) (oi := { dst := some 48, op := Op.indexAddr 85 (Operand.tmp 39) (Operand.tmp 47), type := 0, pos := "ref.go:286", after := #[{ on := 3, ground := Ground.data }, { on := 11, ground := Ground.data }], guard := none }) (v := ?_) rfl (by kernel_rfl) (by kernel_rfl) (by kernel_rfl) (fun _ _ _ h => h) (Or.inl ⟨by rfl, ?_⟩) ?_
        rotate_left
        · intro w'
          go_simp
          try with_reducible rfl
        try simp only [Act.put, List.setIfInBounds_toArray, List.set_cons_zero, List.set_cons_succ]
        refine wpAny_ready (rs := [13, 14]) (by kernel_rfl) (by simp) ?_
        refine (AllReady.cons (o := { dst := some 49, op := Op.load 102 (Operand.tmp 48), type := 102, pos := "ref.go:286", after := #[{ on := 12, ground := Ground.data }], guard := none }) rfl (fun K13 hK13 => ?_) (AllReady.cons (o := { dst := some 6, op := Op.alloc 102, type := 0, pos := "ref.go:286", after := #[], guard := none }) rfl (fun K14 hK14 => ?_) AllReady.nil))
        · go_simp
          refine hK13 _ _ ?_
          clear hK13 K13
          try simp only [Act.put, List.setIfInBounds_toArray, List.set_cons_zero, List.set_cons_succ]
          refine wpAny_ready (rs := [14]) (by kernel_rfl) (by simp) ?_
          refine (AllReady.cons (o := { dst := some 6, op := Op.alloc 102, type := 0, pos := "ref.go:286", after := #[], guard := none }) rfl (fun K14 hK14 => ?_) AllReady.nil)
          go_simp
          refine hK14 _ _ ?_
          clear hK14 K14
          try simp only [Act.put, List.setIfInBounds_toArray, List.set_cons_zero, List.set_cons_succ]
          refine wpAny_ready (rs := [15]) (by kernel_rfl) (by simp) ?_
          refine (AllReady.cons (o := { dst := none, op := Op.store 102 (Operand.tmp 6) (Operand.tmp 49), type := 0, pos := "ref.go:286", after := #[{ on := 14, ground := Ground.data }, { on := 13, ground := Ground.data }, { on := 0, ground := Ground.phase }, { on := 1, ground := Ground.phase }, { on := 2, ground := Ground.phase }, { on := 3, ground := Ground.phase }, { on := 4, ground := Ground.phase }, { on := 5, ground := Ground.phase }, { on := 6, ground := Ground.phase }, { on := 7, ground := Ground.phase }, { on := 8, ground := Ground.phase }, { on := 9, ground := Ground.phase }, { on := 10, ground := Ground.phase }, { on := 11, ground := Ground.phase }, { on := 12, ground := Ground.phase }, { on := 13, ground := Ground.phase }, { on := 14, ground := Ground.phase }], guard := none }) rfl (fun K15 hK15 => ?_) AllReady.nil)
          refine step_store102 rfl (.tmp 6) (.tmp 49) rfl w.heap.size p1 p2 rfl rfl o1 o2 102 _ _ (Bx.new w 102 _) (hK15 _ _ ?_)
          clear hK15 K15
          try simp only [Act.put, List.setIfInBounds_toArray, List.set_cons_zero, List.set_cons_succ]
          refine wpAny_done (by kernel_rfl) ?_ _
          refine NoPanic.normal ?_
          exact h.out
        · go_simp
          refine hK14 _ _ ?_
          clear hK14 K14
          try simp only [Act.put, List.setIfInBounds_toArray, List.set_cons_zero, List.set_cons_succ]
          refine wpAny_ready (rs := [13]) (by kernel_rfl) (by simp) ?_
          refine (AllReady.cons (o := { dst := some 49, op := Op.load 102 (Operand.tmp 48), type := 102, pos := "ref.go:286", after := #[{ on := 12, ground := Ground.data }], guard := none }) rfl (fun K13 hK13 => ?_) AllReady.nil)
          go_simp
          refine hK13 _ _ ?_
          clear hK13 K13
          try simp only [Act.put, List.setIfInBounds_toArray, List.set_cons_zero, List.set_cons_succ]
          refine wpAny_ready (rs := [15]) (by kernel_rfl) (by simp) ?_
          refine (AllReady.cons (o := { dst := none, op := Op.store 102 (Operand.tmp 6) (Operand.tmp 49), type := 0, pos := "ref.go:286", after := #[{ on := 14, ground := Ground.data }, { on := 13, ground := Ground.data }, { on := 0, ground := Ground.phase }, { on := 1, ground := Ground.phase }, { on := 2, ground := Ground.phase }, { on := 3, ground := Ground.phase }, { on := 4, ground := Ground.phase }, { on := 5, ground := Ground.phase }, { on := 6, ground := Ground.phase }, { on := 7, ground := Ground.phase }, { on := 8, ground := Ground.phase }, { on := 9, ground := Ground.phase }, { on := 10, ground := Ground.phase }, { on := 11, ground := Ground.phase }, { on := 12, ground := Ground.phase }, { on := 13, ground := Ground.phase }, { on := 14, ground := Ground.phase }], guard := none }) rfl (fun K15 hK15 => ?_) AllReady.nil)
          refine step_store102 rfl (.tmp 6) (.tmp 49) rfl w.heap.size p1 p2 rfl rfl o1 o2 102 _ _ (Bx.new w 102 _) (hK15 _ _ ?_)
          clear hK15 K15
          try simp only [Act.put, List.setIfInBounds_toArray, List.set_cons_zero, List.set_cons_succ]
          refine wpAny_done (by kernel_rfl) ?_ _
          refine NoPanic.normal ?_
          exact h.out
      · go_simp
        refine hK14 _ _ ?_
        clear hK14 K14
        try simp only [Act.put, List.setIfInBounds_toArray, List.set_cons_zero, List.set_cons_succ]
        refine wpAny_ready (rs := [3]) (by kernel_rfl) (by simp) ?_
        refine (AllReady.cons (o := { dst := some 39, op := Op.load 85 (Operand.tmp 38), type := 85, pos := "ref.go:286", after := #[{ on := 2, ground := Ground.data }], guard := none }) rfl (fun K3 hK3 => ?_) AllReady.nil)
        go_simp
        refine hK3 _ _ ?_
        clear hK3 K3
        try simp only [Act.put, List.setIfInBounds_toArray, List.set_cons_zero, List.set_cons_succ]
        refine wpAny_take (i := 12) (oi := { dst := some 48, op := Op.indexAddr 85 (Operand.tmp 39) (Operand.tmp 47), type := 0, pos := "ref.go:286", after := #[{ on := 3, ground := Ground.data }, { on := 11, ground := Ground.data }], guard := none }) (v := ?_) rfl (by kernel_rfl) (by kernel_rfl) (by kernel_rfl) (fun _ _ _ h => h) (Or.inl ⟨by rfl, ?_⟩) ?_
        rotate_left
        · intro w'
          go_simp
          try with_reducible rfl
        try simp only [Act.put, List.setIfInBounds_toArray, List.set_cons_zero, List.set_cons_succ]
        refine wpAny_ready (rs := [13]) (by kernel_rfl) (by simp) ?_
        refine (AllReady.cons (o := { dst := some 49, op := Op.load 102 (Operand.tmp 48), type := 102, pos := "ref.go:286", after := #[{ on := 12, ground := Ground.data }], guard := none }) rfl (fun K13 hK13 => ?_) AllReady.nil)
        go_simp
        refine hK13 _ _ ?_
        clear hK13 K13
        try simp only [Act.put, List.setIfInBounds_toArray, List.set_cons_zero, List.set_cons_succ]
        refine wpAny_ready (rs := [15]) (by kernel_rfl) (by simp) ?_
        refine (AllReady.cons (o := { dst := none, op := Op.store 102 (Operand.tmp 6) (Operand.tmp 49), type := 0, pos := "ref.go:286", after := #[{ on := 14, ground := Ground.data }, { on := 13, ground := Ground.data }, { on := 0, ground := Ground.phase }, { on := 1, ground := Ground.phase }, { on := 2, ground := Ground.phase }, { on := 3, ground := Ground.phase }, { on := 4, ground := Ground.phase }, { on := 5, ground := Ground.phase }, { on := 6, ground := Ground.phase }, { on := 7, ground := Ground.phase }, { on := 8, ground := Ground.phase }, { on := 9, ground := Ground.phase }, { on := 10, ground := Ground.phase }, { on := 11, ground := Ground.phase }, { on := 12, ground := Ground.phase }, { on := 13, ground := Ground.phase }, { on := 14, ground := Ground.phase }], guard := none }) rfl (fun K15 hK15 => ?_) AllReady.nil)
        refine step_store102 rfl (.tmp 6) (.tmp 49) rfl w.heap.size p1 p2 rfl rfl o1 o2 102 _ _ (Bx.new w 102 _) (hK15 _ _ ?_)
        clear hK15 K15
        try simp only [Act.put, List.setIfInBounds_toArray, List.set_cons_zero, List.set_cons_succ]
        refine wpAny_done (by kernel_rfl) ?_ _
        refine NoPanic.normal ?_
        exact h.out
    · go_simp
      refine hK14 _ _ ?_
      clear hK14 K14
      try simp only [Act.put, List.setIfInBounds_toArray, List.set_cons_zero, List.set_cons_succ]
      refine wpAny_ready (rs := [3, 11]) (by kernel_rfl) (by simp) ?_
      refine (AllReady.cons (o := { dst := some 39, op := Op.load 85 (Operand.tmp 38), type := 85, pos := "ref.go:286", after := #[{ on := 2, ground := Ground.data }], guard := none }) rfl (fun K3 hK3 => ?_) (AllReady.cons (o := { dst := some 47, op := Op.load 3 (Operand.tmp 46), type := 3, pos := "ref.go:286", after := #[{ on := 10, ground := Ground.data }], guard := none }) rfl (fun K11 hK11 => ?_) AllReady.nil))
      · go_simp
        refine hK3 _ _ ?_
        clear hK3 K3
        try simp only [Act.put, List.setIfInBounds_toArray, List.set_cons_zero, List.set_cons_succ]
        refine wpAny_ready (rs := [11]) (by kernel_rfl) (by simp) ?_
        refine (AllReady.cons (o := { dst := some 47, op := Op.load 3 (Operand.tmp 46), type := 3, pos := "ref.go:286", after := #[{ on := 10, ground := Ground.data }], guard := none }) rfl (fun K11 hK11 => ?_) AllReady.nil)
        go_simp
        refine hK11 _ _ ?_
        clear hK11 K11
        try simp only [Act.put, List.setIfInBounds_toArray, List.set_cons_zero, List.set_cons_succ]
        refine wpAny_take (i := 12) (oi := { dst := some 48, op := Op.indexAddr 85 (Operand.tmp 39) (Operand.tmp 47), type := 0, pos := "ref.go:286", after := #[{ on := 3, ground := Ground.data }, { on := 11, ground := Ground.data }], guard := none }) (v := ?_) rfl (by kernel_rfl) (by kernel_rfl) (by kernel_rfl) (fun _ _ _ h => h) (Or.inl ⟨by rfl, ?_⟩) ?_
        rotate_left
        · intro w'
          go_simp
          try with_reducible rfl
        try simp only [Act.put, List.setIfInBounds_toArray, List.set_cons_zero, List.set_cons_succ]
        refine wpAny_ready (rs := [13]) (by kernel_rfl) (by simp) ?_
        refine (AllReady.cons (o := { dst := some 49, op := Op.load 102 (Operand.tmp 48), type := 102, pos := "ref.go:286", after := #[{ on := 12, ground := Ground.data }], guard := none }) rfl (fun K13 hK13 => ?_) AllReady.nil)
        go_simp
        refine hK13 _ _ ?_
        clear hK13 K13
        try simp only [Act.put, List.setIfInBounds_toArray, List.set_cons_zero, List.set_cons_succ]
        refine wpAny_ready (rs := [15]) (by kernel_rfl) (by simp) ?_
        refine (AllReady.cons (o := { dst := none, op := Op.store 102 (Operand.tmp 6) (Operand.tmp 49), type := 0, pos := "ref.go:286", after := #[{ on := 14, ground := Ground.data }, { on := 13, ground := Ground.data }, { on := 0, ground := Ground.phase }, { on := 1, ground := Ground.phase }, { on := 2, ground := Ground.phase }, { on := 3, ground := Ground.phase }, { on := 4, ground := Ground.phase }, { on := 5, ground := Ground.phase }, { on := 6, ground := Ground.phase }, { on := 7, ground := Ground.phase }, { on := 8, ground := Ground.phase }, { on := 9, ground := Ground.phase }, { on := 10, ground := Ground.phase }, { on := 11, ground := Ground.phase }, { on := 12, ground := Ground.phase }, { on := 13, ground := Ground.phase }, { on := 14, ground := Ground.phase }], guard := none }) rfl (fun K15 hK15 => ?_) AllReady.nil)
        refine step_store102 rfl (.tmp 6) (.tmp 49) rfl w.heap.size p1 p2 rfl rfl o1 o2 102 _ _ (Bx.new w 102 _) (hK15 _ _ ?_)
        clear hK15 K15
        try simp only [Act.put, List.setIfInBounds_toArray, List.set_cons_zero, List.set_cons_succ]
        refine wpAny_done (by kernel_rfl) ?_ _
        refine NoPanic.normal ?_
        exact h.out
      · go_simp
        refine hK11 _ _ ?_
        clear hK11 K11
        try simp only [Act.put, List.setIfInBounds_toArray, List.set_cons_zero, List.set_cons_succ]
        refine wpAny_ready (rs := [3]) (by kernel_rfl) (by simp) ?_
        refine (AllReady.cons (o := { dst := some 39, op := Op.load 85 (Operand.tmp 38), type := 85, pos := "ref.go:286", after := #[{ on := 2, ground := Ground.data }], guard := none }) rfl (fun K3 hK3 => ?_) AllReady.nil)
        go_simp
        refine hK3 _ _ ?_
        clear hK3 K3
        try simp only [Act.put, List.setIfInBounds_toArray, List.set_cons_zero, List.set_cons_succ]
        refine wpAny_take (i := 12) (oi := { dst := some 48, op := Op.indexAddr 85 (Operand.tmp 39) (Operand.tmp 47), type := 0, pos := "ref.go:286", after := #[{ on := 3, ground := Ground.data }, { on := 11, ground := Ground.data }], guard := none }) (v := ?_) rfl (by kernel_rfl) (by kernel_rfl) (by kernel_rfl) (fun _ _ _ h => h) (Or.inl ⟨by rfl, ?_⟩) ?_
        rotate_left
        · intro w'
          go_simp
          try with_reducible rfl
        try simp only [Act.put, List.setIfInBounds_toArray, List.set_cons_zero, List.set_cons_succ]
        refine wpAny_ready (rs := [13]) (by kernel_rfl) (by simp) ?_
        refine (AllReady.cons (o := { dst := some 49, op := Op.load 102 (Operand.tmp 48), type := 102, pos := "ref.go:286", after := #[{ on := 12, ground := Ground.data }], guard := none }) rfl (fun K13 hK13 => ?_) AllReady.nil)
        go_simp
        refine hK13 _ _ ?_
        clear hK13 K13
        try simp only [Act.put, List.setIfInBounds_toArray, List.set_cons_zero, List.set_cons_succ]
        refine wpAny_ready (rs := [15]) (by kernel_rfl) (by simp) ?_
        refine (AllReady.cons (o := { dst := none, op := Op.store 102 (Operand.tmp 6) (Operand.tmp 49), type := 0, pos := "ref.go:286", after := #[{ on := 14, ground := Ground.data }, { on := 13, ground := Ground.data }, { on := 0, ground := Ground.phase }, { on := 1, ground := Ground.phase }, { on := 2, ground := Ground.phase }, { on := 3, ground := Ground.phase }, { on := 4, ground := Ground.phase }, { on := 5, ground := Ground.phase }, { on := 6, ground := Ground.phase }, { on := 7, ground := Ground.phase }, { on := 8, ground := Ground.phase }, { on := 9, ground := Ground.phase }, { on := 10, ground := Ground.phase }, { on := 11, ground := Ground.phase }, { on := 12, ground := Ground.phase }, { on := 13, ground := Ground.phase }, { on := 14, ground := Ground.phase }], guard := none }) rfl (fun K15 hK15 => ?_) AllReady.nil)
        refine step_store102 rfl (.tmp 6) (.tmp 49) rfl w.heap.size p1 p2 rfl rfl o1 o2 102 _ _ (Bx.new w 102 _) (hK15 _ _ ?_)
        clear hK15 K15
        try simp only [Act.put, List.setIfInBounds_toArray, List.set_cons_zero, List.set_cons_succ]
        refine wpAny_done (by kernel_rfl) ?_ _
        refine NoPanic.normal ?_
        exact h.out
  · go_simp
    refine hK14 _ _ ?_
    clear hK14 K14
    try simp only [Act.put, List.setIfInBounds_toArray, List.set_cons_zero, List.set_cons_succ]
    refine wpAny_ready (rs := [3, 7]) (by kernel_rfl) (by simp) ?_
    refine (AllReady.cons (o := { dst := some 39, op := Op.load 85 (Operand.tmp 38), type := 85, pos := "ref.go:286", after := #[{ on := 2, ground := Ground.data }], guard := none }) rfl (fun K3 hK3 => ?_) (AllReady.cons (o := { dst := some 43, op := Op.load 86 (Operand.tmp 42), type := 86, pos := "ref.go:286", after := #[{ on := 6, ground := Ground.data }], guard := none }) rfl (fun K7 hK7 => ?_) AllReady.nil))
    · go_simp
      refine hK3 _ _ ?_
      clear hK3 K3
      try simp only [Act.put, List.setIfInBounds_toArray, List.set_cons_zero, List.set_cons_succ]
      refine wpAny_ready (rs := [7]) (by kernel_rfl) (by simp) ?_
      refine (AllReady.cons (o := { dst := some 43, op := Op.load 86 (Operand.tmp 42), type := 86, pos := "ref.go:286", after := #[{ on := 6, ground := Ground.data }], guard := none }) rfl (fun K7 hK7 => ?_) AllReady.nil)
      go_simp
      refine hK7 _ _ ?_
      clear hK7 K7
      try simp only [Act.put, List.setIfInBounds_toArray, List.set_cons_zero, List.set_cons_succ]
      refine wpAny_take (i := 9) (oi := { dst := some 45, op := Op.indexAddr 86 (Operand.tmp 43) (Operand.tmp 44), type := 0, pos := "ref.go:286", after := #[{ on := 7, ground := Ground.data }, { on := 8, ground := Ground.data }], guard := none }) (v := ?_) rfl (by kernel_rfl) (by kernel_rfl) (by kernel_rfl) (fun _ _ _ h => h) (Or.inl ⟨by rfl, ?_⟩) ?_
      rotate_left
      · intro w'
        go_simp
        try with_reducible rfl
      try simp only [Act.put, List.setIfInBounds_toArray, List.set_cons_zero, List.set_cons_succ]
      refine wpAny_take (i := 10) (oi := { dst := some 46, op := Op.fieldAddr 105 (Operand.tmp 45) 1, type := 0, pos := "ref.go:286", after := #[{ on := 9, ground := Ground.data }], guard := none }) (v := ?_) rfl (by kernel_rfl) (by kernel_rfl) (by kernel_rfl) (fun _ _ _ h => h) (Or.inl ⟨by rfl, ?_⟩) ?_
      rotate_left
      · intro w'
        go_simp
        try with_reducible rfl
      try simp only [Act.put, List.setIfInBounds_toArray, List.set_cons_zero, List.set_cons_succ]
      refine wpAny_ready (rs := [11]) (by kernel_rfl) (by simp) ?_
      refine (AllReady.cons (o := { dst := some 47, op := Op.load 3 (Operand.tmp 46), type := 3, pos := "ref.go:286", after := #[{ on := 10, ground := Ground.data }], guard := none }) rfl (fun K11 hK11 => ?_) AllReady.nil)
      go_simp
      refine hK11 _ _ ?_
      clear hK11 K11
      try simp only [Act.put, List.setIfInBounds_toArray, List.set_cons_zero, List.set_cons_succ]
      refine wpAny_take (i := 12) (oi := { dst := some 48, op := Op.indexAddr 85 (Operand.tmp 39) (Operand.tmp 47), type := 0, pos := "ref.go:286", after := #[{ on := 3, ground := Ground.data }, { on := 11, ground := Ground.data }], guard := none }) (v := ?_) rfl (by kernel_rfl) (by kernel_rfl) (by kernel_rfl) (fun _ _ _ h => h) (Or.inl ⟨by rfl, ?_⟩) ?_
      rotate_left
      · intro w'
        go_simp
        try with_reducible rfl
      try simp only [Act.put, List.setIfInBounds_toArray, List.set_cons_zero, List.set_cons_succ]
      refine wpAny_ready (rs := [13]) (by kernel_rfl) (by simp) ?_
      refine (AllReady.cons (o := { dst := some 49, op := Op.load 102 (Operand.tmp 48), type := 102, pos := "ref.go:286", after := #[{ on := 12, ground := Ground.data }], guard := none }) rfl (fun K13 hK13 => ?_) AllReady.nil)
      go_simp
      refine hK13 _ _ ?_
      clear hK13 K13
      try simp only [Act.put, List.setIfInBounds_toArray, List.set_cons_zero, List.set_cons_succ]
      refine wpAny_ready (rs := [15]) (by kernel_rfl) (by simp) ?_
      refine (AllReady.cons (o := { dst := none, op := Op.store 102 (Operand.tmp 6) (Operand.tmp 49), type := 0, pos := "ref.go:286", after := #[{ on := 14, ground := Ground.data }, { on := 13, ground := Ground.data }, { on := 0, ground := Ground.phase }, { on := 1, ground := Ground.phase }, { on := 2, ground := Ground.phase }, { on := 3, ground := Ground.phase }, { on := 4, ground := Ground.phase }, { on := 5, ground := Ground.phase }, { on := 6, ground := Ground.phase }, { on := 7, ground := Ground.phase }, { on := 8, ground := Ground.phase }, { on := 9, ground := Ground.phase }, { on := 10, ground := Ground.phase }, { on := 11, ground := Ground.phase }, { on := 12, ground := Ground.phase }, { on := 13, ground := Ground.phase }, { on := 14, ground := Ground.phase }], guard := none }) rfl (fun K15 hK15 => ?_) AllReady.nil)
      refine step_store102 rfl (.tmp 6) (.tmp 49) rfl w.heap.size p1 p2 rfl rfl o1 o2 102 _ _ (Bx.new w 102 _) (hK15 _ _ ?_)
      clear hK15 K15
      try simp only [Act.put, List.setIfInBounds_toArray, List.set_cons_zero, List.set_cons_succ]
      refine wpAny_done (by kernel_rfl) ?_ _
      refine NoPanic.normal ?_
      exact h.out
    · go_simp
      refine hK7 _ _ ?_
      clear hK7 K7
      try simp only [Act.put, List.setIfInBounds_toArray, List.set_cons_zero, List.set_cons_succ]
      refine wpAny_take (i := 9) (oi := { dst := some 45, op := Op.indexAddr 86 (Operand.tmp 43) (Operand.tmp 44), type := 0, pos := "ref.go:286", after := #[{ on := 7, ground := Ground.data }, { on := 8, ground := Ground.data }], guard := none }) (v := ?_) rfl (by kernel_rfl) (by kernel_rfl) (by kernel_rfl) (fun _ _ _ h => h) (Or.inl ⟨by rfl, ?_⟩) ?_
      rotate_left
      · intro w'
        go_simp
        try with_reducible rfl
      try simp only [Act.put, List.setIfInBounds_toArray, List.set_cons_zero, List.set_cons_succ]
      refine wpAny_take (i := 10) (oi := { dst := some 46, op := Op.fieldAddr 105 (Operand.tmp 45) 1, type := 0, pos := "ref.go:286", after := #[{ on := 9, ground := Ground.data }], guard := none }) (v := ?_) rfl (by kernel_rfl) (by kernel_rfl) (by kernel_rfl) (fun _ _ _ h => h) (Or.inl ⟨by rfl, ?_⟩) ?_
      rotate_left
      · intro w'
        go_simp
        try with_reducible rfl
      try simp only [Act.put, List.setIfInBounds_toArray, List.set_cons_zero, List.set_cons_succ]
      refine wpAny_ready (rs := [3, 11]) (by kernel_rfl) (by simp) ?_
      refine (AllReady.cons (o := { dst := some 39, op := Op.load 85 (Operand.tmp 38), type := 85, pos := "ref.go:286", after := #[{ on := 2, ground := Ground.data }], guard := none }) rfl (fun K3 hK3 => ?_) (AllReady.cons (o := { dst := some 47, op := Op.load 3 (Operand.tmp 46), type := 3, pos := "ref.go:286", after := #[{ on := 10, ground := Ground.data }], guard := none }) rfl (fun K11 hK11 => ?_) AllReady.nil))
      · go_simp
        refine hK3 _ _ ?_
        clear hK3 K3
        try simp only [Act.put, List.setIfInBounds_toArray, List.set_cons_zero, List.set_cons_succ]
        refine wpAny_ready (rs := [11]) (by kernel_rfl) (by simp) ?_
        refine (AllReady.cons (o := { dst := some 47, op := Op.load 3 (Operand.tmp 46), type := 3, pos := "ref.go:286", after := #[{ on := 10, ground := Ground.data }], guard := none }) rfl (fun K11 hK11 => ?_) AllReady.nil)
        go_simp
        refine hK11 _ _ ?_
        clear hK11 K11
        try simp only [Act.put, List.setIfInBounds_toArray, List.set_cons_zero, List.set_cons_succ]
        refine wpAny_take (i := 12) (oi := { dst := some 48, op := Op.indexAddr 85 (Operand.tmp 39) (Operand.tmp 47), type := 0, pos := "ref.go:286", after := #[{ on := 3, ground := Ground.data }, { on := 11, ground := Ground.data }], guard := none }) (v := ?_) rfl (by kernel_rfl) (by kernel_rfl) (by kernel_rfl) (fun _ _ _ h => h) (Or.inl ⟨by rfl, ?_⟩) ?_
        rotate_left
        · intro w'
          go_simp
          try with_reducible rfl
        try simp only [Act.put, List.setIfInBounds_toArray, List.set_cons_zero, List.set_cons_succ]
        refine wpAny_ready (rs := [13]) (by kernel_rfl) (by simp) ?_
        refine (AllReady.cons (o := { dst := some 49, op := Op.load 102 (Operand.tmp 48), type := 102, pos := "ref.go:286", after := #[{ on := 12, ground := Ground.data }], guard := none }) rfl (fun K13 hK13 => ?_) AllReady.nil)
        go_simp
        refine hK13 _ _ ?_
        clear hK13 K13
        try simp only [Act.put, List.setIfInBounds_toArray, List.set_cons_zero, List.set_cons_succ]
        refine wpAny_ready (rs := [15]) (by kernel_rfl) (by simp) ?_
        refine (AllReady.cons (o := { dst := none, op := Op.store 102 (Operand.tmp 6) (Operand.tmp 49), type := 0, pos := "ref.go:286", after := #[{ on := 14, ground := Ground.data }, { on := 13, ground := Ground.data }, { on := 0, ground := Ground.phase }, { on := 1, ground := Ground.phase }, { on := 2, ground := Ground.phase }, { on := 3, ground := Ground.phase }, { on := 4, ground := Ground.phase }, { on := 5, ground := Ground.phase }, { on := 6, ground := Ground.phase }, { on := 7, ground := Ground.phase }, { on := 8, ground := Ground.phase }, { on := 9, ground := Ground.phase }, { on := 10, ground := Ground.phase }, { on := 11, ground := Ground.phase }, { on := 12, ground := Ground.phase }, { on := 13, ground := Ground.phase }, { on := 14, ground := Ground.phase }], guard := none }) rfl (fun K15 hK15 => ?_) AllReady.nil)
        refine step_store102 rfl (.tmp 6) (.tmp 49) rfl w.heap.size p1 p2 rfl rfl o1 o2 102 _ _ (Bx.new w 102 _) (hK15 _ _ ?_)
        clear hK15 K15
        try simp only [Act.put, List.setIfInBounds_toArray, List.set_cons_zero, List.set_cons_succ]
        refine wpAny_done (by kernel_rfl) ?_ _
        refine NoPanic.normal ?_
        exact h.out
      · go_simp
        refine hK11 _ _ ?_
        clear hK11 K11
        try simp only [Act.put, List.setIfInBounds_toArray, List.set_cons_zero, List.set_cons_succ]
        refine wpAny_ready (rs := [3]) (by kernel_rfl) (by simp) ?_
        refine (AllReady.cons (o := { dst := some 39, op := Op.load 85 (Operand.tmp 38), type := 85, pos := "ref.go:286", after := #[{ on := 2, ground := Ground.data }], guard := none }) rfl (fun K3 hK3 => ?_) AllReady.nil)
        go_simp
        refine hK3 _ _ ?_
        clear hK3 K3
        try simp only [Act.put, List.setIfInBounds_toArray, List.set_cons_zero, List.set_cons_succ]
        refine wpAny_take (i := 12) (oi := { dst := some 48, op := Op.indexAddr 85 (Operand.tmp 39) (Operand.tmp 47), type := 0, pos := "ref.go:286", after := #[{ on := 3, ground := Ground.data }, { on := 11, ground := Ground.data }], guard := none }) (v := ?_) rfl (by kernel_rfl) (by kernel_rfl) (by kernel_rfl) (fun _ _ _ h => h) (Or.inl ⟨by rfl, ?_⟩) ?_
        rotate_left
        · intro w'
          go_simp
          try with_reducible rfl
        try simp only [Act.put, List.setIfInBounds_toArray, List.set_cons_zero, List.set_cons_succ]
        refine wpAny_ready (rs := [13]) (by kernel_rfl) (by simp) ?_
        refine (AllReady.cons (o := { dst := some 49, op := Op.load 102 (Operand.tmp 48), type := 102, pos := "ref.go:286", after := #[{ on := 12, ground := Ground.data }], guard := none }) rfl (fun K13 hK13 => ?_) AllReady.nil)
        go_simp
        refine hK13 _ _ ?_
        clear hK13 K13
        try simp only [Act.put, List.setIfInBounds_toArray, List.set_cons_zero, List.set_cons_succ]
        refine wpAny_ready (rs := [15]) (by kernel_rfl) (by simp) ?_
        refine (AllReady.cons (o := { dst := none, op := Op.store 102 (Operand.tmp 6) (Operand.tmp 49), type := 0, pos := "ref.go:286", after := #[{ on := 14, ground := Ground.data }, { on := 13, ground := Ground.data }, { on := 0, ground := Ground.phase }, { on := 1, ground := Ground.phase }, { on := 2, ground := Ground.phase }, { on := 3, ground := Ground.phase }, { on := 4, ground := Ground.phase }, { on := 5, ground := Ground.phase }, { on := 6, ground := Ground.phase }, { on := 7, ground := Ground.phase }, { on := 8, ground := Ground.phase }, { on := 9, ground := Ground.phase }, { on := 10, ground := Ground.phase }, { on := 11, ground := Ground.phase }, { on := 12, ground := Ground.phase }, { on := 13, ground := Ground.phase }, { on := 14, ground := Ground.phase }], guard := none }) rfl (fun K15 hK15 => ?_) AllReady.nil)
        refine step_store102 rfl (.tmp 6) (.tmp 49) rfl w.heap.size p1 p2 rfl rfl o1 o2 102 _ _ (Bx.new w 102 _) (hK15 _ _ ?_)
        clear hK15 K15
        try simp only [Act.put, List.setIfInBounds_toArray, List.set_cons_zero, List.set_cons_succ]
        refine wpAny_done (by kernel_rfl) ?_ _
        refine NoPanic.normal ?_
        exact h.out
set_option maxHeartbeats 4000000 in
set_option maxRecDepth 100000 in
theorem reg55_11 (w : World) (q n : Nat) (a1 a2 : Option Addr) (n1 n2 c1 c2 : Nat) (f0 : w.cell? ⟨q, 0, none⟩ = some (.slice a1 n1 c1)) (f1 : w.cell? ⟨q, 1, none⟩ = some (.slice a2 n2 c2)) (A1 : Nat → World → Prop) (A2 : Nat → Nat → World → Prop) (P1 : ∀ wx : World, wx = w.drew → Calls Try.prog 78 #[.slice a1 n1 c1, .int .i64 (n : Int)] wx fun e w' => ∃ x1, e = .returned (.slice (some ⟨x1, 0, none⟩) n n) ∧ A1 x1 w' ∧ w'.cell? ⟨q, 1, none⟩ = some (.slice a2 n2 c2)) (P2 : ∀ (x1 : Nat) (wx : World), A1 x1 wx → Calls Try.prog 78 #[.slice a2 n2 c2, .int .i64 (n : Int)] wx fun e w' => ∃ x2, e = .returned (.slice (some ⟨x2, 0, none⟩) n n) ∧ A2 x1 x2 w')
    (u0 u1 u2 u3 u4 u5 u8 u9 u10 u11 u12 u13 u14 u15 u16 u17 u18 u19 u20 u21 u22 u23 u24 u25 u26 u27 u28 u29 u30 u31 u32 u33 u34 u35 u36 u37 u38 u39 u40 u41 u42 u43 u44 u45 u46 u47 u48 u49 u50 u51 u52 u53 u54 u55 u56 u57 u58 u59 u60 u61 u62 u63 u64 u65 u66 u67 u68 u69 u70 u71 u72 u73 u74 u75 u76 u77 u78 u79 u80 u81 u82 u83 u84 u85 u86 u87 u88 u89 u90 u91 u92 u93 u94 u95 u96 u97 u98 u99 u100 u101 u102 u103 u104 u105 u106 u107 u108 u109 u110 u111 u112 u113 u114 u115 u116 u117 u118 u119 u120 u121 u122 u123 u124 u125 u126 u127 u128 u129 u130 u131 u132 u133 u134 u135 u136 u137 u138 u139 u140 u141 u142 u143 u144 u145 u146 u147 u148 u149 u150 u151 u152 u153 : Value) (Q : Exit → Act → World → Prop)
    (h : ∀ x1 x2 w', A2 x1 x2 w' → Q .normal { tmps := (List.toArray ((u0 :: u1 :: u2 :: u3 :: u4 :: u5 :: .pointer (some ⟨q, 0, none⟩) :: .int .i64 (n : Int) :: u8 :: .slice (some ⟨x1, 0, none⟩) n n :: .slice (some ⟨x2, 0, none⟩) n n :: u11 :: u12 :: u13 :: u14 :: u15 :: u16 :: u17 :: u18 :: u19 :: u20 :: u21 :: u22 :: u23 :: u24 :: u25 :: u26 :: u27 :: u28 :: u29 :: u30 :: u31 :: u32 :: u33 :: u34 :: u35 :: u36 :: u37 :: u38 :: u39 :: u40 :: u41 :: u42 :: u43 :: u44 :: u45 :: u46 :: u47 :: u48 :: u49 :: u50 :: u51 :: u52 :: u53 :: u54 :: u55 :: u56 :: u57 :: u58 :: u59 :: u60 :: u61 :: u62 :: u63 :: u64 :: u65 :: u66 :: u67 :: u68 :: u69 :: .pointer (some ⟨q, 0, none⟩) :: .slice a1 n1 c1 :: .int .i64 (n : Int) :: .slice (some ⟨x1, 0, none⟩) n n :: .pointer (some ⟨q, 1, none⟩) :: .slice a2 n2 c2 :: .int .i64 (n : Int) :: .slice (some ⟨x2, 0, none⟩) n n :: u78 :: u79 :: u80 :: u81 :: u82 :: u83 :: u84 :: u85 :: u86 :: u87 :: u88 :: u89 :: u90 :: u91 :: u92 :: u93 :: u94 :: u95 :: u96 :: u97 :: u98 :: u99 :: u100 :: u101 :: u102 :: u103 :: u104 :: u105 :: u106 :: u107 :: u108 :: u109 :: u110 :: u111 :: u112 :: u113 :: u114 :: u115 :: u116 :: u117 :: u118 :: u119 :: u120 :: u121 :: u122 :: u123 :: u124 :: u125 :: u126 :: u127 :: u128 :: u129 :: u130 :: u131 :: u132 :: u133 :: u134 :: u135 :: u136 :: u137 :: u138 :: u139 :: u140 :: u141 :: u142 :: u143 :: u144 :: u145 :: u146 :: u147 :: u148 :: u149 :: u150 :: u151 :: u152 :: u153 :: []) : List Value)), defers := [] } w') :
    (Code.region 11 #[{ dst := some 70, op := Op.fieldAddr 102 (Operand.tmp 6) 0, type := 0, pos := "ref.go:292", after := #[], guard := none }, { dst := some 71, op := Op.load 23 (Operand.tmp 70), type := 23, pos := "ref.go:292", after := #[{ on := 0, ground := Ground.data }], guard := none }, { dst := some 72, op := Op.move (Operand.tmp 7), type := 3, pos := "ref.go:292", after := #[], guard := none }, { dst := some 73, op := Op.call { callee := Callee.value (Operand.func 78), args := #[Operand.tmp 71, Operand.tmp 72], argTypes := #[23, 3] }, type := 23, pos := "ref.go:292", after := #[{ on := 1, ground := Ground.data }, { on := 2, ground := Ground.data }], guard := none }, { dst := some 74, op := Op.fieldAddr 102 (Operand.tmp 6) 1, type := 0, pos := "ref.go:292", after := #[], guard := none }, { dst := some 75, op := Op.load 23 (Operand.tmp 74), type := 23, pos := "ref.go:292", after := #[{ on := 4, ground := Ground.data }], guard := none }, { dst := some 76, op := Op.move (Operand.tmp 7), type := 3, pos := "ref.go:292", after := #[], guard := none }, { dst := some 77, op := Op.call { callee := Callee.value (Operand.func 78), args := #[Operand.tmp 75, Operand.tmp 76], argTypes := #[23, 3] }, type := 23, pos := "ref.go:292", after := #[{ on := 5, ground := Ground.data }, { on := 6, ground := Ground.data }, { on := 3, ground := Ground.chain }], guard := none }, { dst := some 9, op := Op.assign (Operand.tmp 73), type := 23, pos := "ref.go:292", after := #[{ on := 3, ground := Ground.data }, { on := 7, ground := Ground.chain }, { on := 0, ground := Ground.phase }, { on := 1, ground := Ground.phase }, { on := 2, ground := Ground.phase }, { on := 3, ground := Ground.phase }, { on := 4, ground := Ground.textOnly Departure.lateStores }, { on := 5, ground := Ground.textOnly Departure.lateStores }, { on := 6, ground := Ground.textOnly Departure.lateStores }, { on := 7, ground := Ground.textOnly Departure.lateStoresUnsure }], guard := none }, { dst := some 10, op := Op.assign (Operand.tmp 77), type := 23, pos := "ref.go:292", after := #[{ on := 7, ground := Ground.data }, { on := 8, ground := Ground.chain }, { on := 0, ground := Ground.phase }, { on := 1, ground := Ground.phase }, { on := 2, ground := Ground.phase }, { on := 3, ground := Ground.phase }, { on := 4, ground := Ground.phase }, { on := 5, ground := Ground.phase }, { on := 6, ground := Ground.phase }, { on := 7, ground := Ground.phase }, { on := 8, ground := Ground.phase }], guard := none }] true).wp Try.prog Q { tmps := (List.toArray ((u0 :: u1 :: u2 :: u3 :: u4 :: u5 :: .pointer (some ⟨q, 0, none⟩) :: .int .i64 (n : Int) :: u8 :: u9 :: u10 :: u11 :: u12 :: u13 :: u14 :: u15 :: u16 :: u17 :: u18 :: u19 :: u20 :: u21 :: u22 :: u23 :: u24 :: u25 :: u26 :: u27 :: u28 :: u29 :: u30 :: u31 :: u32 :: u33 :: u34 :: u35 :: u36 :: u37 :: u38 :: u39 :: u40 :: u41 :: u42 :: u43 :: u44 :: u45 :: u46 :: u47 :: u48 :: u49 :: u50 :: u51 :: u52 :: u53 :: u54 :: u55 :: u56 :: u57 :: u58 :: u59 :: u60 :: u61 :: u62 :: u63 :: u64 :: u65 :: u66 :: u67 :: u68 :: u69 :: u70 :: u71 :: u72 :: u73 :: u74 :: u75 :: u76 :: u77 :: u78 :: u79 :: u80 :: u81 :: u82 :: u83 :: u84 :: u85 :: u86 :: u87 :: u88 :: u89 :: u90 :: u91 :: u92 :: u93 :: u94 :: u95 :: u96 :: u97 :: u98 :: u99 :: u100 :: u101 :: u102 :: u103 :: u104 :: u105 :: u106 :: u107 :: u108 :: u109 :: u110 :: u111 :: u112 :: u113 :: u114 :: u115 :: u116 :: u117 :: u118 :: u119 :: u120 :: u121 :: u122 :: u123 :: u124 :: u125 :: u126 :: u127 :: u128 :: u129 :: u130 :: u131 :: u132 :: u133 :: u134 :: u135 :: u136 :: u137 :: u138 :: u139 :: u140 :: u141 :: u142 :: u143 :: u144 :: u145 :: u146 :: u147 :: u148 :: u149 :: u150 :: u151 :: u152 :: u153 :: []) : List Value)), defers := [] } w := by
  replace P1 := hide P1
  replace P2 := hide P2
  replace h := hide h
  refine wp_region_noPanic ?_
  refine wp_region_any (by kernel_rfl) ?_
  change wpAny _ _ _ _ _ _ _ (World.drew w)
  refine wpAny_take (i := 0) (oi := { dst := some 70, op := Op.fieldAddr 102 (Operand.tmp 6) 0, type := 0, pos := "ref.go:292", after := #[], guard := none }) (v := ?_) rfl (by kernel_rfl) (by kernel_rfl) (by kernel_rfl) (fun _ _ _ h => h) (Or.inl ⟨by rfl, ?_⟩) ?_
  rotate_left
  · intro w'
    go_simp
    try with_reducible rfl
  try simp only [Act.put, List.setIfInBounds_toArray, List.set_cons_zero, List.set_cons_succ]
  refine wpAny_take (i := 2) (oi := { dst := some 72, op := Op.move (Operand.tmp 7), type := 3, pos := "ref.go:292", after := #[], guard := none }) (v := ?_) rfl (by kernel_rfl) (by kernel_rfl) (by kernel_rfl) (fun _ _ _ h => h) (Or.inl ⟨by rfl, ?_⟩) ?_
  rotate_left
  · intro w'
    go_simp
    try with_reducible rfl
  try simp only [Act.put, List.setIfInBounds_toArray, List.set_cons_zero, List.set_cons_succ]
  refine wpAny_take (i := 4) (oi := { dst := some 74, op := Op.fieldAddr 102 (Operand.tmp 6) 1, type := 0, pos := "ref.go:292", after := #[], guard := none }) (v := ?_) rfl (by kernel_rfl) (by kernel_rfl) (by kernel_rfl) (fun _ _ _ h => h) (Or.inl ⟨by rfl, ?_⟩) ?_
  rotate_left
  · intro w'
    go_simp
    try with_reducible rfl
  try simp only [Act.put, List.setIfInBounds_toArray, List.set_cons_zero, List.set_cons_succ]
  refine wpAny_take (i := 6) (oi := { dst := some 76, op := Op.move (Operand.tmp 7), type := 3, pos := "ref.go:292", after := #[], guard := none }) (v := ?_) rfl (by kernel_rfl) (by kernel_rfl) (by kernel_rfl) (fun _ _ _ h => h) (Or.inl ⟨by rfl, ?_⟩) ?_
  rotate_left
  · intro w'
    go_simp
    try with_reducible rfl
  try simp only [Act.put, List.setIfInBounds_toArray, List.set_cons_zero, List.set_cons_succ]
  refine wpAny_ready (rs := [1, 5]) (by kernel_rfl) (by simp) ?_
  refine (AllReady.cons (o := { dst := some 71, op := Op.load 23 (Operand.tmp 70), type := 23, pos := "ref.go:292", after := #[{ on := 0, ground := Ground.data }], guard := none }) rfl (fun K1 hK1 => ?_) (AllReady.cons (o := { dst := some 75, op := Op.load 23 (Operand.tmp 74), type := 23, pos := "ref.go:292", after := #[{ on := 4, ground := Ground.data }], guard := none }) rfl (fun K5 hK5 => ?_) AllReady.nil))
  · go_simp
    refine hK1 _ _ ?_
    clear hK1 K1
    try simp only [Act.put, List.setIfInBounds_toArray, List.set_cons_zero, List.set_cons_succ]
    refine wpAny_ready (rs := [3, 5]) (by kernel_rfl) (by simp) ?_
    refine (AllReady.cons (o := { dst := some 73, op := Op.call { callee := Callee.value (Operand.func 78), args := #[Operand.tmp 71, Operand.tmp 72], argTypes := #[23, 3] }, type := 23, pos := "ref.go:292", after := #[{ on := 1, ground := Ground.data }, { on := 2, ground := Ground.data }], guard := none }) rfl (fun K3 hK3 => ?_) (AllReady.cons (o := { dst := some 75, op := Op.load 23 (Operand.tmp 74), type := 23, pos := "ref.go:292", after := #[{ on := 4, ground := Ground.data }], guard := none }) rfl (fun K5 hK5 => ?_) AllReady.nil))
    · go_simp
      refine (P1.out _ rfl).mono ?_
      rintro e w2 ⟨x1, rfl, hA1, q1⟩
      replace hA1 := hide hA1
      refine hK3 _ _ ?_
      clear hK3 K3
      try simp only [Act.put, List.setIfInBounds_toArray, List.set_cons_zero, List.set_cons_succ]
      refine wpAny_ready (rs := [5]) (by kernel_rfl) (by simp) ?_
      refine (AllReady.cons (o := { dst := some 75, op := Op.load 23 (Operand.tmp 74), type := 23, pos := "ref.go:292", after := #[{ on := 4, ground := Ground.data }], guard := none }) rfl (fun K5 hK5 => ?_) AllReady.nil)
      go_simp
      refine hK5 _ _ ?_
      clear hK5 K5
      try simp only [Act.put, List.setIfInBounds_toArray, List.set_cons_zero, List.set_cons_succ]
      refine wpAny_ready (rs := [7]) (by kernel_rfl) (by simp) ?_
      refine (AllReady.cons (o := { dst := some 77, op := Op.call { callee := Callee.value (Operand.func 78), args := #[Operand.tmp 75, Operand.tmp 76], argTypes := #[23, 3] }, type := 23, pos := "ref.go:292", after := #[{ on := 5, ground := Ground.data }, { on := 6, ground := Ground.data }, { on := 3, ground := Ground.chain }], guard := none }) rfl (fun K7 hK7 => ?_) AllReady.nil)
      go_simp
      refine (P2.out x1 _ hA1.out).mono ?_
      rintro e w3 ⟨x2, rfl, hA2⟩
      replace hA2 := hide hA2
      refine hK7 _ _ ?_
      clear hK7 K7
      try simp only [Act.put, List.setIfInBounds_toArray, List.set_cons_zero, List.set_cons_succ]
      refine wpAny_take (i := 8) (oi := { dst := some 9, op := Op.assign (Operand.tmp 73), type := 23, pos := "ref.go:292", after := #[{ on := 3, ground := Ground.data }, { on := 7, ground := Ground.chain }, { on := 0, ground := Ground.phase }, { on := 1, ground := Ground.phase }, { on := 2, ground := Ground.phase }, { on := 3, ground := Ground.phase }, { on := 4, ground := Ground.textOnly Departure.lateStores }, { on := 5, ground := Ground.textOnly Departure.lateStores }, { on := 6, ground := Ground.textOnly Departure.lateStores }, { on := 7, ground := Ground.textOnly Departure.lateStoresUnsure }], guard := none }) (v := ?_) rfl (by kernel_rfl) (by kernel_rfl) (by kernel_rfl) (fun _ _ _ h => h) (Or.inl ⟨by rfl, ?_⟩) ?_
      rotate_left
      · intro w'
        go_simp
        try with_reducible rfl
      try simp only [Act.put, List.setIfInBounds_toArray, List.set_cons_zero, List.set_cons_succ]
      refine wpAny_take (i := 9) (oi := { dst := some 10, op := Op.assign (Operand.tmp 77), type := 23, pos := "ref.go:292", after := #[{ on := 7, ground := Ground.data }, { on := 8, ground := Ground.chain }, { on := 0, ground := Ground.phase }, { on := 1, ground := Ground.phase }, { on := 2, ground := Ground.phase }, { on := 3, ground := Ground.phase }, { on := 4, ground := Ground.phase }, { on := 5, ground := Ground.phase }, { on := 6, ground := Ground.phase }, { on := 7, ground := Ground.phase }, { on := 8, ground := Ground.phase }], guard := none }) (v := ?_) rfl (by kernel_rfl) (by kernel_rfl) (by kernel_rfl) (fun _ _ _ h => h) (Or.inl ⟨by rfl, ?_⟩) ?_
      rotate_left
      · intro w'
        go_simp
        try with_reducible rfl
      try simp only [Act.put, List.setIfInBounds_toArray, List.set_cons_zero, List.set_cons_succ]
      refine wpAny_done (by kernel_rfl) ?_ _
      refine NoPanic.normal ?_
      exact h.out x1 x2 w3 hA2.out
    · go_simp
      refine hK5 _ _ ?_
      clear hK5 K5
      try simp only [Act.put, List.setIfInBounds_toArray, List.set_cons_zero, List.set_cons_succ]
      refine wpAny_ready (rs := [3]) (by kernel_rfl) (by simp) ?_
      refine (AllReady.cons (o := { dst := some 73, op := Op.call { callee := Callee.value (Operand.func 78), args := #[Operand.tmp 71, Operand.tmp 72], argTypes := #[23, 3] }, type := 23, pos := "ref.go:292", after := #[{ on := 1, ground := Ground.data }, { on := 2, ground := Ground.data }], guard := none }) rfl (fun K3 hK3 => ?_) AllReady.nil)
      go_simp
      refine (P1.out _ rfl).mono ?_
      rintro e w2 ⟨x1, rfl, hA1, q1⟩
      replace hA1 := hide hA1
      refine hK3 _ _ ?_
      clear hK3 K3
      try simp only [Act.put, List.setIfInBounds_toArray, List.set_cons_zero, List.set_cons_succ]
      refine wpAny_ready (rs := [7]) (by kernel_rfl) (by simp) ?_
      refine (AllReady.cons (o := { dst := some 77, op := Op.call { callee := Callee.value (Operand.func 78), args := #[Operand.tmp 75, Operand.tmp 76], argTypes := #[23, 3] }, type := 23, pos := "ref.go:292", after := #[{ on := 5, ground := Ground.data }, { on := 6, ground := Ground.data }, { on := 3, ground := Ground.chain }], guard := none }) rfl (fun K7 hK7 => ?_) AllReady.nil)
      go_simp
      refine (P2.out x1 _ hA1.out).mono ?_
      rintro e w3 ⟨x2, rfl, hA2⟩
      replace hA2 := hide hA2
      refine hK7 _ _ ?_
      clear hK7 K7
      try simp only [Act.put, List.setIfInBounds_toArray, List.set_cons_zero, List.set_cons_succ]
      refine wpAny_take (i := 8) (oi := { dst := some 9, op := Op.assign (Operand.tmp 73), type := 23, pos := "ref.go:292", after := #[{ on := 3, ground := Ground.data }, { on := 7, ground := Ground.chain }, { on := 0, ground := Ground.phase }, { on := 1, ground := Ground.phase }, { on := 2, ground := Ground.phase }, { on := 3, ground := Ground.phase }, { on := 4, ground := Ground.textOnly Departure.lateStores }, { on := 5, ground := Ground.textOnly Departure.lateStores }, { on := 6, ground := Ground.textOnly Departure.lateStores }, { on := 7, ground := Ground.textOnly Departure.lateStoresUnsure }], guard := none }) (v := ?_) rfl (by kernel_rfl) (by kernel_rfl) (by kernel_rfl) (fun _ _ _ h => h) (Or.inl ⟨by rfl, ?_⟩) ?_
      rotate_left
      · intro w'
        go_simp
        try with_reducible rfl
      try simp only [Act.put, List.setIfInBounds_toArray, List.set_cons_zero, List.set_cons_succ]
      refine wpAny_take (i := 9) (oi := { dst := some 10, op := Op.assign (Operand.tmp 77), type := 23, pos := "ref.go:292", after := #[{ on := 7, ground := Ground.data }, { on := 8, ground := Ground.chain }, { on := 0, ground := Ground.phase }, { on := 1, ground := Ground.phase }, { on := 2, ground := Ground.phase }, { on := 3, ground := Ground.phase }, { on := 4, ground := Ground.phase }, { on := 5, ground := Ground.phase }, { on := 6, ground := Ground.phase }, { on := 7, ground := Ground.phase }, { on := 8, ground := Ground.phase }], guard := none }) (v := ?_) rfl (by kernel_rfl) (by kernel_rfl) (by kernel_rfl) (fun _ _ _ h => h) (Or.inl ⟨by rfl, ?_⟩) ?_
      rotate_left
      · intro w'
        go_simp
        try with_reducible rfl
      try simp only [Act.put, List.setIfInBounds_toArray, List.set_cons_zero, List.set_cons_succ]
      refine wpAny_done (by kernel_rfl) ?_ _
      refine NoPanic.normal ?_
      exact h.out x1 x2 w3 hA2.out
  · go_simp
    refine hK5 _ _ ?_
    clear hK5 K5
    try simp only [Act.put, List.setIfInBounds_toArray, List.set_cons_zero, List.set_cons_succ]
    refine wpAny_ready (rs := [1]) (by kernel_rfl) (by simp) ?_
    refine (AllReady.cons (o := { dst := some 71, op := Op.load 23 (Operand.tmp 70), type := 23, pos := "ref.go:292", after := #[{ on := 0, ground := Ground.data }], guard := none }) rfl (fun K1 hK1 => ?_) AllReady.nil)
    go_simp
    refine hK1 _ _ ?_
    clear hK1 K1
    try simp only [Act.put, List.setIfInBounds_toArray, List.set_cons_zero, List.set_cons_succ]
    refine wpAny_ready (rs := [3]) (by kernel_rfl) (by simp) ?_
    refine (AllReady.cons (o := { dst := some 73, op := Op.call { callee := Callee.value (Operand.func 78), args := #[Operand.tmp 71, Operand.tmp 72], argTypes := #[23, 3] }, type := 23, pos := "ref.go:292", after := #[{ on := 1, ground := Ground.data }, { on := 2, ground := Ground.data }], guard := none }) rfl (fun K3 hK3 => ?_) AllReady.nil)
    go_simp
    refine (P1.out _ rfl).mono ?_
    rintro e w2 ⟨x1, rfl, hA1, q1⟩
    replace hA1 := hide hA1
    refine hK3 _ _ ?_
    clear hK3 K3
    try simp only [Act.put, List.setIfInBounds_toArray, List.set_cons_zero, List.set_cons_succ]
    refine wpAny_ready (rs := [7]) (by kernel_rfl) (by simp) ?_
    refine (AllReady.cons (o := { dst := some 77, op := Op.call { callee := Callee.value (Operand.func 78), args := #[Operand.tmp 75, Operand.tmp 76], argTypes := #[23, 3] }, type := 23, pos := "ref.go:292", after := #[{ on := 5, ground := Ground.data }, { on := 6, ground := Ground.data }, { on := 3, ground := Ground.chain }], guard := none }) rfl (fun K7 hK7 => ?_) AllReady.nil)
    go_simp
    refine (P2.out x1 _ hA1.out).mono ?_
    rintro e w3 ⟨x2, rfl, hA2⟩
    replace hA2 := hide hA2
    refine hK7 _ _ ?_
    clear hK7 K7
    try simp only [Act.put, List.setIfInBounds_toArray, List.set_cons_zero, List.set_cons_succ]
    refine wpAny_take (i := 8) (oi := { dst := some 9, op := Op.assign (Operand.tmp 73), type := 23, pos := "ref.go:292", after := #[{ on := 3, ground := Ground.data }, { on := 7, ground := Ground.chain }, { on := 0, ground := Ground.phase }, { on := 1, ground := Ground.phase }, { on := 2, ground := Ground.phase }, { on := 3, ground := Ground.phase }, { on := 4, ground := Ground.textOnly Departure.lateStores }, { on := 5, ground := Ground.textOnly Departure.lateStores }, { on := 6, ground := Ground.textOnly Departure.lateStores }, { on := 7, ground := Ground.textOnly Departure.lateStoresUnsure }], guard := none }) (v := ?_) rfl (by kernel_rfl) (by kernel_rfl) (by kernel_rfl) (fun _ _ _ h => h) (Or.inl ⟨by rfl, ?_⟩) ?_
    rotate_left
    · intro w'
      go_simp
      try with_reducible rfl
    try simp only [Act.put, List.setIfInBounds_toArray, List.set_cons_zero, List.set_cons_succ]
    refine wpAny_take (i := 9) (oi := { dst := some 10, op := Op.assign (Operand.tmp 77), type := 23, pos := "ref.go:292", after := #[{ on := 7, ground := Ground.data }, { on := 8, ground := Ground.chain }, { on := 0, ground := Ground.phase }, { on := 1, ground := Ground.phase }, { on := 2, ground := Ground.phase }, { on := 3, ground := Ground.phase }, { on := 4, ground := Ground.phase }, { on := 5, ground := Ground.phase }, { on := 6, ground := Ground.phase }, { on := 7, ground := Ground.phase }, { on := 8, ground := Ground.phase }], guard := none }) (v := ?_) rfl (by kernel_rfl) (by kernel_rfl) (by kernel_rfl) (fun _ _ _ h => h) (Or.inl ⟨by rfl, ?_⟩) ?_
    rotate_left
    · intro w'
      go_simp
      try with_reducible rfl
    try simp only [Act.put, List.setIfInBounds_toArray, List.set_cons_zero, List.set_cons_succ]
    refine wpAny_done (by kernel_rfl) ?_ _
    refine NoPanic.normal ?_
    exact h.out x1 x2 w3 hA2.out
set_option maxHeartbeats 4000000 in
set_option maxRecDepth 100000 in
theorem reg55_27 (w : World) (vO v1 v2 vT : Value) (aA aB : Option Addr) (lA cA lB cB kp : Nat) (rs1 : ∀ wx : World, (Instr.sliceAt 23 (.slice aA lA cA) none (some (.int .i64 (kp : Int))) none).run Try.prog wx = .ok (.slice aA kp cA) wx) (rs2 : ∀ wx : World, (Instr.sliceAt 23 (.slice aB lB cB) (some (.int .i64 (kp : Int))) none none).run Try.prog wx = .ok vT wx) (w1 w2 : World) (R1 : (Builtin.append_ #[23, 23] 23 #[vO, .slice aA kp cA]).run Try.prog w.drew = .ok v1 w1) (R2 : (Builtin.append_ #[23, 23] 23 #[v1, vT]).run Try.prog w1 = .ok v2 w2)
    (u0 u1 u2 u3 u4 u5 u6 u7 u8 u9 u10 u12 u13 u16 u18 u19 u20 u21 u22 u23 u24 u25 u26 u27 u28 u29 u30 u31 u32 u33 u34 u35 u36 u37 u38 u39 u40 u41 u42 u43 u44 u45 u46 u47 u48 u49 u50 u51 u52 u53 u54 u55 u56 u57 u58 u59 u60 u61 u62 u63 u64 u65 u66 u67 u68 u69 u70 u71 u72 u73 u74 u75 u76 u77 u78 u79 u80 u81 u82 u83 u84 u85 u86 u87 u88 u89 u90 u91 u92 u93 u94 u95 u96 u97 u98 u99 u100 u101 u102 u103 u104 u105 u106 u107 u108 u109 u110 u111 u112 u113 u114 u115 u116 u117 u118 u119 u120 u121 u122 u123 u124 u125 u126 u127 u128 u129 u130 u131 u132 u133 u134 u135 u136 u137 u138 u139 u140 u141 u142 u143 u144 u145 u146 u147 u148 u149 u150 u151 u152 u153 : Value) (Q : Exit → Act → World → Prop)
    (h : Q .normal { tmps := (List.toArray ((u0 :: u1 :: u2 :: u3 :: u4 :: u5 :: u6 :: u7 :: u8 :: u9 :: u10 :: v2 :: u12 :: u13 :: (.slice aA lA cA) :: (.slice aB lB cB) :: u16 :: .int .i64 (kp : Int) :: u18 :: u19 :: u20 :: u21 :: u22 :: u23 :: u24 :: u25 :: u26 :: u27 :: u28 :: u29 :: u30 :: u31 :: u32 :: u33 :: u34 :: u35 :: u36 :: u37 :: u38 :: u39 :: u40 :: u41 :: u42 :: u43 :: u44 :: u45 :: u46 :: u47 :: u48 :: u49 :: u50 :: u51 :: u52 :: u53 :: u54 :: u55 :: u56 :: u57 :: u58 :: u59 :: u60 :: u61 :: u62 :: u63 :: u64 :: u65 :: u66 :: u67 :: u68 :: u69 :: u70 :: u71 :: u72 :: u73 :: u74 :: u75 :: u76 :: u77 :: u78 :: u79 :: u80 :: u81 :: u82 :: u83 :: u84 :: u85 :: u86 :: u87 :: u88 :: u89 :: u90 :: u91 :: u92 :: u93 :: u94 :: u95 :: u96 :: u97 :: u98 :: u99 :: u100 :: u101 :: u102 :: u103 :: u104 :: u105 :: u106 :: u107 :: u108 :: u109 :: u110 :: u111 :: u112 :: u113 :: u114 :: u115 :: u116 :: u117 :: u118 :: u119 :: u120 :: u121 :: u122 :: vO :: (.slice aA lA cA) :: .int .i64 (kp : Int) :: (.slice aA kp cA) :: v1 :: (.slice aB lB cB) :: .int .i64 (kp : Int) :: vT :: v2 :: u132 :: u133 :: u134 :: u135 :: u136 :: u137 :: u138 :: u139 :: u140 :: u141 :: u142 :: u143 :: u144 :: u145 :: u146 :: u147 :: u148 :: u149 :: u150 :: u151 :: u152 :: u153 :: []) : List Value)), defers := [] } w2) :
    (Code.region 27 #[{ dst := some 123, op := Op.move (Operand.tmp 11), type := 23, pos := "ref.go:310", after := #[], guard := none }, { dst := some 124, op := Op.move (Operand.tmp 14), type := 23, pos := "ref.go:310", after := #[], guard := none }, { dst := some 125, op := Op.move (Operand.tmp 17), type := 3, pos := "ref.go:310", after := #[], guard := none }, { dst := some 126, op := Op.slice 23 (Operand.tmp 124) none (some (Operand.tmp 125)) none, type := 23, pos := "ref.go:310", after := #[{ on := 1, ground := Ground.data }, { on := 2, ground := Ground.data }], guard := none }, { dst := some 127, op := Op.call { callee := Callee.builtin Builtin.append, args := #[Operand.tmp 123, Operand.tmp 126], argTypes := #[23, 23] }, type := 23, pos := "ref.go:310", after := #[{ on := 0, ground := Ground.data }, { on := 3, ground := Ground.data }], guard := none }, { dst := some 128, op := Op.move (Operand.tmp 15), type := 23, pos := "ref.go:310", after := #[], guard := none }, { dst := some 129, op := Op.move (Operand.tmp 17), type := 3, pos := "ref.go:310", after := #[], guard := none }, { dst := some 130, op := Op.slice 23 (Operand.tmp 128) (some (Operand.tmp 129)) none none, type := 23, pos := "ref.go:310", after := #[{ on := 5, ground := Ground.data }, { on := 6, ground := Ground.data }], guard := none }, { dst := some 131, op := Op.call { callee := Callee.builtin Builtin.append, args := #[Operand.tmp 127, Operand.tmp 130], argTypes := #[23, 23] }, type := 23, pos := "ref.go:310", after := #[{ on := 4, ground := Ground.data }, { on := 7, ground := Ground.data }, { on := 4, ground := Ground.chain }], guard := none }, { dst := some 11, op := Op.assign (Operand.tmp 131), type := 23, pos := "ref.go:310", after := #[{ on := 8, ground := Ground.data }, { on := 8, ground := Ground.chain }, { on := 0, ground := Ground.phase }, { on := 1, ground := Ground.phase }, { on := 2, ground := Ground.phase }, { on := 3, ground := Ground.phase }, { on := 4, ground := Ground.phase }, { on := 5, ground := Ground.phase }, { on := 6, ground := Ground.phase }, { on := 7, ground := Ground.phase }, { on := 8, ground := Ground.phase }], guard := none }] true).wp Try.prog Q { tmps := (List.toArray ((u0 :: u1 :: u2 :: u3 :: u4 :: u5 :: u6 :: u7 :: u8 :: u9 :: u10 :: vO :: u12 :: u13 :: (.slice aA lA cA) :: (.slice aB lB cB) :: u16 :: .int .i64 (kp : Int) :: u18 :: u19 :: u20 :: u21 :: u22 :: u23 :: u24 :: u25 :: u26 :: u27 :: u28 :: u29 :: u30 :: u31 :: u32 :: u33 :: u34 :: u35 :: u36 :: u37 :: u38 :: u39 :: u40 :: u41 :: u42 :: u43 :: u44 :: u45 :: u46 :: u47 :: u48 :: u49 :: u50 :: u51 :: u52 :: u53 :: u54 :: u55 :: u56 :: u57 :: u58 :: u59 :: u60 :: u61 :: u62 :: u63 :: u64 :: u65 :: u66 :: u67 :: u68 :: u69 :: u70 :: u71 :: u72 :: u73 :: u74 :: u75 :: u76 :: u77 :: u78 :: u79 :: u80 :: u81 :: u82 :: u83 :: u84 :: u85 :: u86 :: u87 :: u88 :: u89 :: u90 :: u91 :: u92 :: u93 :: u94 :: u95 :: u96 :: u97 :: u98 :: u99 :: u100 :: u101 :: u102 :: u103 :: u104 :: u105 :: u106 :: u107 :: u108 :: u109 :: u110 :: u111 :: u112 :: u113 :: u114 :: u115 :: u116 :: u117 :: u118 :: u119 :: u120 :: u121 :: u122 :: u123 :: u124 :: u125 :: u126 :: u127 :: u128 :: u129 :: u130 :: u131 :: u132 :: u133 :: u134 :: u135 :: u136 :: u137 :: u138 :: u139 :: u140 :: u141 :: u142 :: u143 :: u144 :: u145 :: u146 :: u147 :: u148 :: u149 :: u150 :: u151 :: u152 :: u153 :: []) : List Value)), defers := [] } w := by
  replace h := hide h
  refine wp_region_noPanic ?_
  refine wp_region_any (by kernel_rfl) ?_
  change wpAny _ _ _ _ _ _ _ (World.drew w)
  refine wpAny_take (i := 0) (oi := { dst := some 123, op := Op.move (Operand.tmp 11), type := 23, pos := "ref.go:310", after := #[], guard := none }) (v := ?_) rfl (by kernel_rfl) (by kernel_rfl) (by kernel_rfl) (fun _ _ _ h => h) (Or.inl ⟨by rfl, ?_⟩) ?_
  rotate_left
  · intro w'
    go_simp
    try with_reducible rfl
  try simp only [Act.put, List.setIfInBounds_toArray, List.set_cons_zero, List.set_cons_succ]
  refine wpAny_take (i := 1) (oi := { dst := some 124, op := Op.move (Operand.tmp 14), type := 23, pos := "ref.go:310", after := #[], guard := none }) (v := ?_) rfl (by kernel_rfl) (by kernel_rfl) (by kernel_rfl) (fun _ _ _ h => h) (Or.inl ⟨by rfl, ?_⟩) ?_
  rotate_left
  · intro w'
    go_simp
    try with_reducible rfl
  try simp only [Act.put, List.setIfInBounds_toArray, List.set_cons_zero, List.set_cons_succ]
  refine wpAny_take (i := 2) (oi := { dst := some 125, op := Op.move (Operand.tmp 17), type := 3, pos := "ref.go:310", after := #[], guard := none }) (v := ?_) rfl (by kernel_rfl) (by kernel_rfl) (by kernel_rfl) (fun _ _ _ h => h) (Or.inl ⟨by rfl, ?_⟩) ?_
  rotate_left
  · intro w'
    go_simp
    try with_reducible rfl
  try simp only [Act.put, List.setIfInBounds_toArray, List.set_cons_zero, List.set_cons_succ]
  refine wpAny_take (i := 3) (oi := { dst := some 126, op := Op.slice 23 (Operand.tmp 124) none (some (Operand.tmp 125)) none, type := 23, pos := "ref.go:310", after := #[{ on := 1, ground := Ground.data }, { on := 2, ground := Ground.data }], guard := none }) (v := ?_) rfl (by kernel_rfl) (by kernel_rfl) (by kernel_rfl) (fun _ _ _ h => h) (Or.inl ⟨by rfl, ?_⟩) ?_
  rotate_left
  · intro w'
    go_simp
    try with_reducible rfl
  try simp only [Act.put, List.setIfInBounds_toArray, List.set_cons_zero, List.set_cons_succ]
  refine wpAny_take (i := 5) (oi := { dst := some 128, op := Op.move (Operand.tmp 15), type := 23, pos := "ref.go:310", after := #[], guard := none }) (v := ?_) rfl (by kernel_rfl) (by kernel_rfl) (by kernel_rfl) (fun _ _ _ h => h) (Or.inl ⟨by rfl, ?_⟩) ?_
  rotate_left
  · intro w'
    go_simp
    try with_reducible rfl
  try simp only [Act.put, List.setIfInBounds_toArray, List.set_cons_zero, List.set_cons_succ]
  refine wpAny_take (i := 6) (oi := { dst := some 129, op := Op.move (Operand.tmp 17), type := 3, pos := "ref.go:310", after := #[], guard := none }) (v := ?_) rfl (by kernel_rfl) (by kernel_rfl) (by kernel_rfl) (fun _ _ _ h => h) (Or.inl ⟨by rfl, ?_⟩) ?_
  rotate_left
  · intro w'
    go_simp
    try with_reducible rfl
  try simp only [Act.put, List.setIfInBounds_toArray, List.set_cons_zero, List.set_cons_succ]
  refine wpAny_take (i := 7) (oi := { dst := some 130, op := Op.slice 23 (Operand.tmp 128) (some (Operand.tmp 129)) none none, type := 23, pos := "ref.go:310", after := #[{ on := 5, ground := Ground.data }, { on := 6, ground := Ground.data }], guard := none }) (v := ?_) rfl (by kernel_rfl) (by kernel_rfl) (by kernel_rfl) (fun _ _ _ h => h) (Or.inl ⟨by rfl, ?_⟩) ?_
  rotate_left
  · intro w'
    go_simp
    try with_reducible rfl
  try simp only [Act.put, List.setIfInBounds_toArray, List.set_cons_zero, List.set_cons_succ]
  refine wpAny_ready (rs := [4]) (by kernel_rfl) (by simp) ?_
  refine (AllReady.cons (o := { dst := some 127, op := Op.call { callee := Callee.builtin Builtin.append, args := #[Operand.tmp 123, Operand.tmp 126], argTypes := #[23, 23] }, type := 23, pos := "ref.go:310", after := #[{ on := 0, ground := Ground.data }, { on := 3, ground := Ground.data }], guard := none }) rfl (fun K4 hK4 => ?_) AllReady.nil)
  refine step_app rfl (.tmp 123) (.tmp 126) rfl _ _ _ _ rfl rfl R1 (hK4 _ _ ?_)
  clear hK4 K4
  try simp only [Act.put, List.setIfInBounds_toArray, List.set_cons_zero, List.set_cons_succ]
  refine wpAny_ready (rs := [8]) (by kernel_rfl) (by simp) ?_
  refine (AllReady.cons (o := { dst := some 131, op := Op.call { callee := Callee.builtin Builtin.append, args := #[Operand.tmp 127, Operand.tmp 130], argTypes := #[23, 23] }, type := 23, pos := "ref.go:310", after := #[{ on := 4, ground := Ground.data }, { on := 7, ground := Ground.data }, { on := 4, ground := Ground.chain }], guard := none }) rfl (fun K8 hK8 => ?_) AllReady.nil)
  refine step_app rfl (.tmp 127) (.tmp 130) rfl _ _ _ _ rfl rfl R2 (hK8 _ _ ?_)
  clear hK8 K8
  try simp only [Act.put, List.setIfInBounds_toArray, List.set_cons_zero, List.set_cons_succ]
  refine wpAny_take (i := 9) (oi := { dst := some 11, op := Op.assign (Operand.tmp 131), type := 23, pos := "ref.go:310", after := #[{ on := 8, ground := Ground.data }, { on := 8, ground := Ground.chain }, { on := 0, ground := Ground.phase }, { on := 1, ground := Ground.phase }, { on := 2, ground := Ground.phase }, { on := 3, ground := Ground.phase }, { on := 4, ground := Ground.phase }, { on := 5, ground := Ground.phase }, { on := 6, ground := Ground.phase }, { on := 7, ground := Ground.phase }, { on := 8, ground := Ground.phase }], guard := none }) (v := ?_) rfl (by kernel_rfl) (by kernel_rfl) (by kernel_rfl) (fun _ _ _ h => h) (Or.inl ⟨by rfl, ?_⟩) ?_
  rotate_left
  · intro w'
    go_simp
    try with_reducible rfl
  try simp only [Act.put, List.setIfInBounds_toArray, List.set_cons_zero, List.set_cons_succ]
  refine wpAny_done (by kernel_rfl) ?_ _
  refine NoPanic.normal ?_
  exact h.out
set_option maxHeartbeats 4000000 in
set_option maxRecDepth 100000 in
theorem reg55_28 (w : World) (y g off nF cF b od nD cD i x : Nat) (a8 : Option Addr) (n8 c8 : Nat) (j1 : (i : Int) < (nD : Int)) (j2 : (x : Int) < (nF : Int)) (c2 : w.cell? ⟨y, 2, none⟩ = some (.slice (some ⟨g, off, none⟩) nF cF)) (c3 : w.cell? ⟨y, 3, none⟩ = some (.slice (some ⟨b, od, none⟩) nD cD)) (ce : w.cell? ⟨b, od + i * 2 + 1, none⟩ = some (.int .i64 (x : Int))) (f1 : w.frozen? ⟨g, off + x * 2, none⟩ = false) (f2 : w.frozen? ⟨g, off + x * 2 + 1, none⟩ = false) (e1 e2 : Value) (z1 : w.cell? ⟨g, off + x * 2, none⟩ = some e1) (z2 : w.cell? ⟨g, off + x * 2 + 1, none⟩ = some e2)
    (u1 u2 u3 u4 u6 u7 u8 u9 u10 u12 u13 u14 u15 u16 u17 u18 u19 u20 u21 u22 u23 u24 u25 u26 u27 u28 u29 u30 u31 u32 u33 u34 u35 u36 u37 u38 u39 u40 u41 u42 u43 u44 u45 u46 u47 u48 u49 u50 u51 u52 u53 u54 u55 u56 u57 u58 u59 u60 u61 u62 u63 u64 u65 u66 u67 u68 u69 u70 u71 u72 u73 u74 u75 u76 u77 u78 u79 u80 u81 u82 u83 u84 u85 u86 u87 u88 u89 u90 u91 u92 u93 u94 u95 u96 u97 u98 u99 u100 u101 u102 u103 u104 u105 u106 u107 u108 u109 u110 u111 u112 u113 u114 u115 u116 u117 u118 u119 u120 u121 u122 u123 u124 u125 u126 u127 u128 u129 u130 u131 u132 u133 u134 u135 u136 u137 u138 u139 u140 u141 u142 u143 u144 u145 u146 u147 u148 u149 u150 u151 u152 u153 : Value) (Q : Exit → Act → World → Prop)
    (h : Q .normal { tmps := (List.toArray ((.pointer (some ⟨y, 0, none⟩) :: u1 :: u2 :: u3 :: u4 :: .int .i64 (i : Int) :: u6 :: u7 :: u8 :: u9 :: u10 :: (.slice a8 n8 c8) :: u12 :: u13 :: u14 :: u15 :: u16 :: u17 :: u18 :: u19 :: u20 :: u21 :: u22 :: u23 :: u24 :: u25 :: u26 :: u27 :: u28 :: u29 :: u30 :: u31 :: u32 :: u33 :: u34 :: u35 :: u36 :: u37 :: u38 :: u39 :: u40 :: u41 :: u42 :: u43 :: u44 :: u45 :: u46 :: u47 :: u48 :: u49 :: u50 :: u51 :: u52 :: u53 :: u54 :: u55 :: u56 :: u57 :: u58 :: u59 :: u60 :: u61 :: u62 :: u63 :: u64 :: u65 :: u66 :: u67 :: u68 :: u69 :: u70 :: u71 :: u72 :: u73 :: u74 :: u75 :: u76 :: u77 :: u78 :: u79 :: u80 :: u81 :: u82 :: u83 :: u84 :: u85 :: u86 :: u87 :: u88 :: u89 :: u90 :: u91 :: u92 :: u93 :: u94 :: u95 :: u96 :: u97 :: u98 :: u99 :: u100 :: u101 :: u102 :: u103 :: u104 :: u105 :: u106 :: u107 :: u108 :: u109 :: u110 :: u111 :: u112 :: u113 :: u114 :: u115 :: u116 :: u117 :: u118 :: u119 :: u120 :: u121 :: u122 :: u123 :: u124 :: u125 :: u126 :: u127 :: u128 :: u129 :: u130 :: u131 :: .pointer (some ⟨y, 0, none⟩) :: .pointer (some ⟨y, 0, none⟩) :: .pointer (some ⟨y, 2, none⟩) :: (.slice (some ⟨g, off, none⟩) nF cF) :: .pointer (some ⟨y, 0, none⟩) :: .pointer (some ⟨y, 0, none⟩) :: .pointer (some ⟨y, 3, none⟩) :: (.slice (some ⟨b, od, none⟩) nD cD) :: .int .i64 (i : Int) :: .pointer (some ⟨b, od + i * 2, none⟩) :: .pointer (some ⟨b, od + i * 2 + 1, none⟩) :: .int .i64 (x : Int) :: (.slice a8 n8 c8) :: (.slice a8 n8 c8) :: .agg #[.slice a8 n8 c8, .slice a8 n8 c8] :: .pointer (some ⟨g, off + x * 2, none⟩) :: u148 :: u149 :: u150 :: u151 :: u152 :: u153 :: []) : List Value)), defers := [] } ((w.setCell ⟨g, off + x * 2, none⟩ (.slice a8 n8 c8)).setCell ⟨g, off + x * 2 + 1, none⟩ (.slice a8 n8 c8)).drew) :
    (Code.region 28 #[{ dst := some 132, op := Op.move (Operand.tmp 0), type := 38, pos := "ref.go:312", after := #[], guard := none }, { dst := some 133, op := Op.nilCheck (Operand.tmp 132), type := 0, pos := "ref.go:312", after := #[{ on := 0, ground := Ground.data }], guard := none }, { dst := some 134, op := Op.fieldAddr 88 (Operand.tmp 133) 2, type := 0, pos := "ref.go:312", after := #[{ on := 1, ground := Ground.data }], guard := none }, { dst := some 135, op := Op.load 85 (Operand.tmp 134), type := 85, pos := "ref.go:312", after := #[{ on := 2, ground := Ground.data }], guard := none }, { dst := some 136, op := Op.move (Operand.tmp 0), type := 38, pos := "ref.go:312", after := #[], guard := none }, { dst := some 137, op := Op.nilCheck (Operand.tmp 136), type := 0, pos := "ref.go:312", after := #[{ on := 4, ground := Ground.data }], guard := none }, { dst := some 138, op := Op.fieldAddr 88 (Operand.tmp 137) 3, type := 0, pos := "ref.go:312", after := #[{ on := 5, ground := Ground.data }], guard := none }, { dst := some 139, op := Op.load 86 (Operand.tmp 138), type := 86, pos := "ref.go:312", after := #[{ on := 6, ground := Ground.data }], guard := none }, { dst := some 140, op := Op.move (Operand.tmp 5), type := 3, pos := "ref.go:312", after := #[], guard := none }, { dst := some 141, op := Op.indexAddr 86 (Operand.tmp 139) (Operand.tmp 140), type := 0, pos := "ref.go:312", after := #[{ on := 7, ground := Ground.data }, { on := 8, ground := Ground.data }], guard := none }, { dst := some 142, op := Op.fieldAddr 105 (Operand.tmp 141) 1, type := 0, pos := "ref.go:312", after := #[{ on := 9, ground := Ground.data }], guard := none }, { dst := some 143, op := Op.load 3 (Operand.tmp 142), type := 3, pos := "ref.go:312", after := #[{ on := 10, ground := Ground.data }], guard := none }, { dst := some 144, op := Op.move (Operand.tmp 11), type := 23, pos := "ref.go:312", after := #[], guard := none }, { dst := some 145, op := Op.move (Operand.tmp 11), type := 23, pos := "ref.go:312", after := #[], guard := none }, { dst := some 146, op := Op.build 102 #[(0, Operand.tmp 144), (1, Operand.tmp 145)], type := 102, pos := "ref.go:312", after := #[{ on := 12, ground := Ground.data }, { on := 13, ground := Ground.data }], guard := none }, { dst := some 147, op := Op.indexAddr 85 (Operand.tmp 135) (Operand.tmp 143), type := 0, pos := "ref.go:312", after := #[{ on := 3, ground := Ground.data }, { on := 11, ground := Ground.data }, { on := 0, ground := Ground.phase }, { on := 1, ground := Ground.phase }, { on := 2, ground := Ground.phase }, { on := 3, ground := Ground.phase }, { on := 4, ground := Ground.phase }, { on := 5, ground := Ground.phase }, { on := 6, ground := Ground.phase }, { on := 7, ground := Ground.phase }, { on := 8, ground := Ground.phase }, { on := 9, ground := Ground.phase }, { on := 10, ground := Ground.phase }, { on := 11, ground := Ground.phase }, { on := 12, ground := Ground.phase }, { on := 13, ground := Ground.phase }, { on := 14, ground := Ground.phase }], guard := none }, { dst := none, op := Op.store 102 (Operand.tmp 147) (Operand.tmp 146), type := 0, pos := "ref.go:312", after := #[{ on := 15, ground := Ground.data }, { on := 14, ground := Ground.data }, { on := 0, ground := Ground.phase }, { on := 1, ground := Ground.phase }, { on := 2, ground := Ground.phase }, { on := 3, ground := Ground.phase }, { on := 4, ground := Ground.phase }, { on := 5, ground := Ground.phase }, { on := 6, ground := Ground.phase }, { on := 7, ground := Ground.phase }, { on := 8, ground := Ground.phase }, { on := 9, ground := Ground.phase }, { on := 10, ground := Ground.phase }, { on := 11, ground := Ground.phase }, { on := 12, ground := Ground.phase }, { on := 13, ground := Ground.phase }, { on := 14, ground := Ground.phase }], guard := none }] true).wp Try.prog Q { tmps := (List.toArray ((.pointer (some ⟨y, 0, none⟩) :: u1 :: u2 :: u3 :: u4 :: .int .i64 (i : Int) :: u6 :: u7 :: u8 :: u9 :: u10 :: (.slice a8 n8 c8) :: u12 :: u13 :: u14 :: u15 :: u16 :: u17 :: u18 :: u19 :: u20 :: u21 :: u22 :: u23 :: u24 :: u25 :: u26 :: u27 :: u28 :: u29 :: u30 :: u31 :: u32 :: u33 :: u34 :: u35 :: u36 :: u37 :: u38 :: u39 :: u40 :: u41 :: u42 :: u43 :: u44 :: u45 :: u46 :: u47 :: u48 :: u49 :: u50 :: u51 :: u52 :: u53 :: u54 :: u55 :: u56 :: u57 :: u58 :: u59 :: u60 :: u61 :: u62 :: u63 :: u64 :: u65 :: u66 :: u67 :: u68 :: u69 :: u70 :: u71 :: u72 :: u73 :: u74 :: u75 :: u76 :: u77 :: u78 :: u79 :: u80 :: u81 :: u82 :: u83 :: u84 :: u85 :: u86 :: u87 :: u88 :: u89 :: u90 :: u91 :: u92 :: u93 :: u94 :: u95 :: u96 :: u97 :: u98 :: u99 :: u100 :: u101 :: u102 :: u103 :: u104 :: u105 :: u106 :: u107 :: u108 :: u109 :: u110 :: u111 :: u112 :: u113 :: u114 :: u115 :: u116 :: u117 :: u118 :: u119 :: u120 :: u121 :: u122 :: u123 :: u124 :: u125 :: u126 :: u127 :: u128 :: u129 :: u130 :: u131 :: u132 :: u133 :: u134 :: u135 :: u136 :: u137 :: u138 :: u139 :: u140 :: u141 :: u142 :: u143 :: u144 :: u145 :: u146 :: u147 :: u148 :: u149 :: u150 :: u151 :: u152 :: u153 :: []) : List Value)), defers := [] } w := by
  replace h := hide h
  refine wp_region_noPanic ?_
  refine wp_region_any (by kernel_rfl) ?_
  change wpAny _ _ _ _ _ _ _ (World.drew w)
  refine wpAny_take (i := 0) (oi := { dst := some 132, op := Op.move (Operand.tmp 0), type := 38, pos := "ref.go:312", after := #[], guard := none }) (v := ?_) rfl (by kernel_rfl) (by kernel_rfl) (by kernel_rfl) (fun _ _ _ h => h) (Or.inl ⟨by rfl, ?_⟩) ?_
  rotate_left
  · intro w'
    go_simp
    try with_reducible rfl
  try simp only [Act.put, List.setIfInBounds_toArray, List.set_cons_zero, List.set_cons_succ]
  refine wpAny_take (i := 1) (oi := { dst := some 133, op := Op.nilCheck (Operand.tmp 132), type := 0, pos := "ref.go:312", after := #[{ on := 0, ground := Ground.data }], guard := none }) (v := ?_) rfl (by kernel_rfl) (by kernel_rfl) (by kernel_rfl) (fun _ _ _ h => h) (Or.inl ⟨by rfl, ?_⟩) ?_
  rotate_left
  · intro w'
    go_simp
    try with_reducible rfl
  try simp only [Act.put, List.setIfInBounds_toArray, List.set_cons_zero, List.set_cons_succ]
  refine wpAny_take (i := 2) (oi := { dst := some 134, op := Op.fieldAddr 88 (Operand.tmp 133) 2, type := 0, pos := "ref.go:312", after := #[{ on := 1, ground := Ground.data }], guard := none }) (v := ?_) rfl (by kernel_rfl) (by kernel_rfl) (by kernel_rfl) (fun _ _ _ h => h) (Or.inl ⟨by rfl, ?_⟩) ?_
  rotate_left
  · intro w'
    go_simp
    try with_reducible rfl
  try simp only [Act.put, List.setIfInBounds_toArray, List.set_cons_zero, List.set_cons_succ]
  refine wpAny_take (i := 4) (oi := { dst := some 136, op := Op.move (Operand.tmp 0), type := 38, pos := "ref.go:312", after := #[], guard := none }) (v := ?_) rfl (by kernel_rfl) (by kernel_rfl) (by kernel_rfl) (fun _ _ _ h => h) (Or.inl ⟨by rfl, ?_⟩) ?_
  rotate_left
  · intro w'
    go_simp
    try with_reducible rfl
  try simp only [Act.put, List.setIfInBounds_toArray, List.set_cons_zero, List.set_cons_succ]
  refine wpAny_take (i := 5) (oi := { dst := some 137, op := Op.nilCheck (Operand.tmp 136), type := 0, pos := "ref.go:312", after := #[{ on := 4, ground := Ground.data }], guard := none }) (v := ?_) rfl (by kernel_rfl) (by kernel_rfl) (by kernel_rfl) (fun _ _ _ h => h) (Or.inl ⟨by rfl, ?_⟩) ?_
  rotate_left
  · intro w'
    go_simp
    try with_reducible rfl
  try simp only [Act.put, List.setIfInBounds_toArray, List.set_cons_zero, List.set_cons_succ]
  refine wpAny_take (i := 6) (oi := { dst := some 138, op := Op.fieldAddr 88 (Operand.tmp 137) 3, type := 0, pos := "ref.go:312", after := #[{ on := 5, ground := Ground.data }], guard := none }) (v := ?_) rfl (by kernel_rfl) (by kernel_rfl) (by kernel_rfl) (fun _ _ _ h => h) (Or.inl ⟨by rfl, ?_⟩) ?_
  rotate_left
  · intro w'
    go_simp
    try with_reducible rfl
  try simp only [Act.put, List.setIfInBounds_toArray, List.set_cons_zero, List.set_cons_succ]
  refine wpAny_take (i := 8) (oi := { dst := some 140, op := Op.move (Operand.tmp 5), type := 3, pos := "ref.go:312", after := #[], guard := none }) (v := ?_) rfl (by kernel_rfl) (by kernel_rfl) (by kernel_rfl) (fun _ _ _ h => h) (Or.inl ⟨by rfl, ?_⟩) ?_
  rotate_left
  · intro w'
    go_simp
    try with_reducible rfl
  try simp only [Act.put, List.setIfInBounds_toArray, List.set_cons_zero, List.set_cons_succ]
  refine wpAny_take (i := 12) (oi := { dst := some 144, op := Op.move (Operand.tmp 11), type := 23, pos := "ref.go:312", after := #[], guard := none }) (v := ?_) rfl (by kernel_rfl) (by kernel_rfl) (by kernel_rfl) (fun _ _ _ h => h) (Or.inl ⟨by rfl, ?_⟩) ?_
  rotate_left
  · intro w'
    go_simp
    try with_reducible rfl
  try simp only [Act.put, List.setIfInBounds_toArray, List.set_cons_zero, List.set_cons_succ]
  refine wpAny_take (i := 13) (oi := { dst := some 145, op := Op.move (Operand.tmp 11), type := 23, pos := "ref.go:312", after := #[], guard := none }) (v := ?_) rfl (by kernel_rfl) (by kernel_rfl) (by kernel_rfl) (fun _ _ _ h => h) (Or.inl ⟨by rfl, ?_⟩) ?_
  rotate_left
  · intro w'
    go_simp
    try with_reducible rfl
  try simp only [Act.put, List.setIfInBounds_toArray, List.set_cons_zero, List.set_cons_succ]
  refine wpAny_take (i := 14) (oi := { dst := some 146, op := Op.build 102 #[(0, Operand.tmp 144), (1, Operand.tmp 145)], type := 102, pos := "ref.go:312", after := #[{ on := 12, ground := Ground.data }, { on := 13, ground := Ground.data }], guard := none }) (v := ?_) rfl (by kernel_rfl) (by kernel_rfl) (by kernel_rfl) (fun _ _ _ h => h) (Or.inl ⟨by rfl, ?_⟩) ?_
  rotate_left
  · intro w'
    go_simp
    try with_reducible rfl
  try simp only [Act.put, List.setIfInBounds_toArray, List.set_cons_zero, List.set_cons_succ]
  refine wpAny_ready (rs := [3, 7]) (by kernel_rfl) (by simp) ?_
  refine (AllReady.cons (o := { dst := some 135, op := Op.load 85 (Operand.tmp 134), type := 85, pos := "ref.go:312", after := #[{ on := 2, ground := Ground.data }], guard := none }) rfl (fun K3 hK3 => ?_) (AllReady.cons (o := { dst := some 139, op := Op.load 86 (Operand.tmp 138), type := 86, pos := "ref.go:312", after := #[{ on := 6, ground := Ground.data }], guard := none }) rfl (fun K7 hK7 => ?_) AllReady.nil))
  · go_simp
    refine hK3 _ _ ?_
    clear hK3 K3
    try simp only [Act.put, List.setIfInBounds_toArray, List.set_cons_zero, List.set_cons_succ]
    refine wpAny_ready (rs := [7]) (by kernel_rfl) (by simp) ?_
    refine (AllReady.cons (o := { dst := some 139, op := Op.load 86 (Operand.tmp 138), type := 86, pos := "ref.go:312", after := #[{ on := 6, ground := Ground.data }], guard := none }) rfl (fun K7 hK7 => ?_) AllReady.nil)
    go_simp
    refine hK7 _ _ ?_
    clear hK7 K7
    try simp only [Act.put, List.setIfInBounds_toArray, List.set_cons_zero, List.set_cons_succ]
    refine wpAny_take (i := 9) (oi := { dst := some 141, op := Op.indexAddr 86 (Operand.tmp 139) (Operand.tmp 140), type := 0, pos := "ref.go:312", after := #[{ on := 7, ground := Ground.data }, { on := 8, ground := Ground.data }], guard := none }) (v := ?_) rfl (by kernel_rfl) (by kernel_rfl) (by kernel_rfl) (fun _ _ _ h => h) (Or.inl ⟨by rfl, ?_⟩) ?_
    rotate_left
    · intro w'
      go_simp
      try with_reducible rfl
    try simp only [Act.put, List.setIfInBounds_toArray, List.set_cons_zero, List.set_cons_succ]
    refine wpAny_take (i := 10) (oi := { dst := some 142, op := Op.fieldAddr 105 (Operand.tmp 141) 1, type := 0, pos := "ref.go:312", after := #[{ on := 9, ground := Ground.data }], guard := none }) (v := ?_) rfl (by kernel_rfl) (by kernel_rfl) (by kernel_rfl) (fun _ _ _ h => h) (Or.inl ⟨by rfl, ?_⟩) ?_
    rotate_left
    · intro w'
      go_simp
      try with_reducible rfl
    try simp only [Act.put, List.setIfInBounds_toArray, List.set_cons_zero, List.set_cons_succ]
    refine wpAny_ready (rs := [11]) (by kernel_rfl) (by simp) ?_
    refine (AllReady.cons (o := { dst := some 143, op := Op.load 3 (Operand.tmp 142), type := 3, pos := "ref.go:312", after := #[{ on := 10, ground := Ground.data }], guard := none }) rfl (fun K11 hK11 => ?_) AllReady.nil)
    go_simp
    refine hK11 _ _ ?_
    clear hK11 K11
    try simp only [Act.put, List.setIfInBounds_toArray, List.set_cons_zero, List.set_cons_succ]
    refine wpAny_take (i := 15) (oi := { dst := some 147, op := Op.indexAddr 85 (Operand.tmp 135) (Operand.tmp 143), type := 0, pos := "ref.go:312", after := #[{ on := 3, ground := Ground.data }, { on := 11, ground := Ground.data }, { on := 0, ground := Ground.phase }, { on := 1, ground := Ground.phase }, { on := 2, ground := Ground.phase }, { on := 3, ground := Ground.phase }, { on := 4, ground := Ground.phase }, { on := 5, ground := Ground.phase }, { on := 6, ground := Ground.phase }, { on := 7, ground := Ground.phase }, { on := 8, ground := Ground.phase }, { on := 9, ground := Ground.phase }, { on := 10, ground := Ground.phase }, { on := 11, ground := Ground.phase }, { on := 12, ground := Ground.phase }, { on := 13, ground := Ground.phase }, { on := 14, ground := Ground.phase }], guard := none }) (v := ?_) rfl (by kernel_rfl) (by kernel_rfl) (by kernel_rfl) (fun _ _ _ h => h) (Or.inl ⟨by rfl, ?_⟩) ?_
    rotate_left
    · intro w'
      go_simp
      try with_reducible rfl
    try simp only [Act.put, List.setIfInBounds_toArray, List.set_cons_zero, List.set_cons_succ]
    refine wpAny_ready (rs := [16]) (by kernel_rfl) (by simp) ?_
    refine (AllReady.cons (o := { dst := none, op := Op.store 102 (Operand.tmp 147) (Operand.tmp 146), type := 0, pos := "ref.go:312", after := #[{ on := 15, ground := Ground.data }, { on := 14, ground := Ground.data }, { on := 0, ground := Ground.phase }, { on := 1, ground := Ground.phase }, { on := 2, ground := Ground.phase }, { on := 3, ground := Ground.phase }, { on := 4, ground := Ground.phase }, { on := 5, ground := Ground.phase }, { on := 6, ground := Ground.phase }, { on := 7, ground := Ground.phase }, { on := 8, ground := Ground.phase }, { on := 9, ground := Ground.phase }, { on := 10, ground := Ground.phase }, { on := 11, ground := Ground.phase }, { on := 12, ground := Ground.phase }, { on := 13, ground := Ground.phase }, { on := 14, ground := Ground.phase }], guard := none }) rfl (fun K16 hK16 => ?_) AllReady.nil)
    go_simp
    refine hK16 _ _ ?_
    clear hK16 K16
    try simp only [Act.put, List.setIfInBounds_toArray, List.set_cons_zero, List.set_cons_succ]
    refine wpAny_done (by kernel_rfl) ?_ _
    refine NoPanic.normal ?_
    exact h.out
  · go_simp
    refine hK7 _ _ ?_
    clear hK7 K7
    try simp only [Act.put, List.setIfInBounds_toArray, List.set_cons_zero, List.set_cons_succ]
    refine wpAny_take (i := 9) (oi := { dst := some 141, op := Op.indexAddr 86 (Operand.tmp 139) (Operand.tmp 140), type := 0, pos := "ref.go:312", after := #[{ on := 7, ground := Ground.data }, { on := 8, ground := Ground.data }], guard := none }) (v := ?_) rfl (by kernel_rfl) (by kernel_rfl) (by kernel_rfl) (fun _ _ _ h => h) (Or.inl ⟨by rfl, ?_⟩) ?_
    rotate_left
    · intro w'
      go_simp
      try with_reducible rfl
    try simp only [Act.put, List.setIfInBounds_toArray, List.set_cons_zero, List.set_cons_succ]
    refine wpAny_take (i := 10) (oi := { dst := some 142, op := Op.fieldAddr 105 (Operand.tmp 141) 1, type := 0, pos := "ref.go:312", after := #[{ on := 9, ground := Ground.data }], guard := none }) (v := ?_) rfl (by kernel_rfl) (by kernel_rfl) (by kernel_rfl) (fun _ _ _ h => h) (Or.inl ⟨by rfl, ?_⟩) ?_
    rotate_left
    · intro w'
      go_simp
      try with_reducible rfl
    try simp only [Act.put, List.setIfInBounds_toArray, List.set_cons_zero, List.set_cons_succ]
    refine wpAny_ready (rs := [3, 11]) (by kernel_rfl) (by simp) ?_
    refine (AllReady.cons (o := { dst := some 135, op := Op.load 85 (Operand.tmp 134), type := 85, pos := "ref.go:312", after := #[{ on := 2, ground := Ground.data }], guard := none }) rfl (fun K3 hK3 => ?_) (AllReady.cons (o := { dst := some 143, op := Op.load 3 (Operand.tmp 142), type := 3, pos := "ref.go:312", after := #[{ on := 10, ground := Ground.data }], guard := none }) rfl (fun K11 hK11 => ?_) AllReady.nil))
    · go_simp
      refine hK3 _ _ ?_
      clear hK3 K3
      try simp only [Act.put, List.setIfInBounds_toArray, List.set_cons_zero, List.set_cons_succ]
      refine wpAny_ready (rs := [11]) (by kernel_rfl) (by simp) ?_
      refine (AllReady.cons (o := { dst := some 143, op := Op.load 3 (Operand.tmp 142), type := 3, pos := "ref.go:312", after := #[{ on := 10, ground := Ground.data }], guard := none }) rfl (fun K11 hK11 => ?_) AllReady.nil)
      go_simp
      refine hK11 _ _ ?_
      clear hK11 K11
      try simp only [Act.put, List.setIfInBounds_toArray, List.set_cons_zero, List.set_cons_succ]
      refine wpAny_take (i := 15) (oi := { dst := some 147, op := Op.indexAddr 85 (Operand.tmp 135) (Operand.tmp 143), type := 0, pos := "ref.go:312", after := #[{ on := 3, ground := Ground.data }, { on := 11, ground := Ground.data }, { on := 0, ground := Ground.phase }, { on := 1, ground := Ground.phase }, { on := 2, ground := Ground.phase }, { on := 3, ground := Ground.phase }, { on := 4, ground := Ground.phase }, { on := 5, ground := Ground.phase }, { on := 6, ground := Ground.phase }, { on := 7, ground := Ground.phase }, { on := 8, ground := Ground.phase }, { on := 9, ground := Ground.phase }, { on := 10, ground := Ground.phase }, { on := 11, ground := Ground.phase }, { on := 12, ground := Ground.phase }, { on := 13, ground := Ground.phase }, { on := 14, ground := Ground.phase }], guard := none }) (v := ?_) rfl (by kernel_rfl) (by kernel_rfl) (by kernel_rfl) (fun _ _ _ h => h) (Or.inl ⟨by rfl, ?_⟩) ?_
      rotate_left
      · intro w'
        go_simp
        try with_reducible rfl
      try simp only [Act.put, List.setIfInBounds_toArray, List.set_cons_zero, List.set_cons_succ]
      refine wpAny_ready (rs := [16]) (by kernel_rfl) (by simp) ?_
      refine (AllReady.cons (o := { dst := none, op := Op.store 102 (Operand.tmp 147) (Operand.tmp 146), type := 0, pos := "ref.go:312", after := #[{ on := 15, ground := Ground.data }, { on := 14, ground := Ground.data }, { on := 0, ground := Ground.phase }, { on := 1, ground := Ground.phase }, { on := 2, ground := Ground.phase }, { on := 3, ground := Ground.phase }, { on := 4, ground := Ground.phase }, { on := 5, ground := Ground.phase }, { on := 6, ground := Ground.phase }, { on := 7, ground := Ground.phase }, { on := 8, ground := Ground.phase }, { on := 9, ground := Ground.phase }, { on := 10, ground := Ground.phase }, { on := 11, ground := Ground.phase }, { on := 12, ground := Ground.phase }, { on := 13, ground := Ground.phase }, { on := 14, ground := Ground.phase }], guard := none }) rfl (fun K16 hK16 => ?_) AllReady.nil)
      go_simp
      refine hK16 _ _ ?_
      clear hK16 K16
      try simp only [Act.put, List.setIfInBounds_toArray, List.set_cons_zero, List.set_cons_succ]
      refine wpAny_done (by kernel_rfl) ?_ _
      refine NoPanic.normal ?_
      exact h.out
    · go_simp
      refine hK11 _ _ ?_
      clear hK11 K11
      try simp only [Act.put, List.setIfInBounds_toArray, List.set_cons_zero, List.set_cons_succ]
      refine wpAny_ready (rs := [3]) (by kernel_rfl) (by simp) ?_
      refine (AllReady.cons (o := { dst := some 135, op := Op.load 85 (Operand.tmp 134), type := 85, pos := "ref.go:312", after := #[{ on := 2, ground := Ground.data }], guard := none }) rfl (fun K3 hK3 => ?_) AllReady.nil)
      go_simp
      refine hK3 _ _ ?_
      clear hK3 K3
      try simp only [Act.put, List.setIfInBounds_toArray, List.set_cons_zero, List.set_cons_succ]
      refine wpAny_take (i := 15) (oi := { dst := some 147, op := Op.indexAddr 85 (Operand.tmp 135) (Operand.tmp 143), type := 0, pos := "ref.go:312", after := #[{ on := 3, ground := Ground.data }, { on := 11, ground := Ground.data }, { on := 0, ground := Ground.phase }, { on := 1, ground := Ground.phase }, { on := 2, ground := Ground.phase }, { on := 3, ground := Ground.phase }, { on := 4, ground := Ground.phase }, { on := 5, ground := Ground.phase }, { on := 6, ground := Ground.phase }, { on := 7, ground := Ground.phase }, { on := 8, ground := Ground.phase }, { on := 9, ground := Ground.phase }, { on := 10, ground := Ground.phase }, { on := 11, ground := Ground.phase }, { on := 12, ground := Ground.phase }, { on := 13, ground := Ground.phase }, { on := 14, ground := Ground.phase }], guard := none }) (v := ?_) rfl (by kernel_rfl) (by kernel_rfl) (by kernel_rfl) (fun _ _ _ h => h) (Or.inl ⟨by rfl, ?_⟩) ?_
      rotate_left
      · intro w'
        go_simp
        try with_reducible rfl
      try simp only [Act.put, List.setIfInBounds_toArray, List.set_cons_zero, List.set_cons_succ]
      refine wpAny_ready (rs := [16]) (by kernel_rfl) (by simp) ?_
      refine (AllReady.cons (o := { dst := none, op := Op.store 102 (Operand.tmp 147) (Operand.tmp 146), type := 0, pos := "ref.go:312", after := #[{ on := 15, ground := Ground.data }, { on := 14, ground := Ground.data }, { on := 0, ground := Ground.phase }, { on := 1, ground := Ground.phase }, { on := 2, ground := Ground.phase }, { on := 3, ground := Ground.phase }, { on := 4, ground := Ground.phase }, { on := 5, ground := Ground.phase }, { on := 6, ground := Ground.phase }, { on := 7, ground := Ground.phase }, { on := 8, ground := Ground.phase }, { on := 9, ground := Ground.phase }, { on := 10, ground := Ground.phase }, { on := 11, ground := Ground.phase }, { on := 12, ground := Ground.phase }, { on := 13, ground := Ground.phase }, { on := 14, ground := Ground.phase }], guard := none }) rfl (fun K16 hK16 => ?_) AllReady.nil)
      go_simp
      refine hK16 _ _ ?_
      clear hK16 K16
      try simp only [Act.put, List.setIfInBounds_toArray, List.set_cons_zero, List.set_cons_succ]
      refine wpAny_done (by kernel_rfl) ?_ _
      refine NoPanic.normal ?_
      exact h.out
end Go.Proofs.Ytgbijkdfhkkieaa
