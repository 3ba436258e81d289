/-
  The reference's Crash.
-/
import Derived.Test.YtgbijkdfhkkieaaRS
namespace Go.Proofs.Ytgbijkdfhkkieaa
open Go.RowKit Go.Maps Go.Lib
set_option linter.unusedVariables false
set_option linter.unusedSimpArgs false
set_option maxHeartbeats 4000000 in
set_option maxRecDepth 100000 in
theorem reg55_17 (w : World) (n t e0 k x1 x2 : Nat) (rh : ∀ (w : World) (r : Nat), (Instr.sliceAt 23 (.slice (some ⟨r, 0, none⟩) n n) (some (.int .i64 (t : Int))) (some (.int .i64 (e0 : Int))) none).run Try.prog w = .ok (.slice (some ⟨r, t, none⟩) k (n - t)) w)
    (u0 u1 u2 u3 u4 u5 u6 u7 u8 u11 u14 u15 u16 u17 u18 u19 u20 u21 u22 u23 u24 u25 u26 u27 u28 u29 u30 u31 u32 u33 u34 u35 u36 u37 u38 u39 u40 u41 u42 u43 u44 u45 u46 u47 u48 u49 u50 u51 u52 u53 u54 u55 u56 u57 u58 u59 u60 u61 u62 u63 u64 u65 u66 u67 u68 u69 u70 u71 u72 u73 u74 u75 u76 u77 u78 u79 u80 u81 u82 u83 u84 u85 u86 u87 u88 u89 u90 u91 u92 u93 u94 u95 u96 u97 u98 u99 u100 u101 u102 u103 u104 u105 u106 u107 u108 u109 u110 u111 u112 u113 u114 u115 u116 u117 u118 u119 u120 u121 u122 u123 u124 u125 u126 u127 u128 u129 u130 u131 u132 u133 u134 u135 u136 u137 u138 u139 u140 u141 u142 u143 u144 u145 u146 u147 u148 u149 u150 u151 u152 u153 : Value) (Q : Exit → Act → World → Prop)
    (h : Q .normal { tmps := (List.toArray ((u0 :: u1 :: u2 :: u3 :: u4 :: u5 :: u6 :: u7 :: u8 :: .slice (some ⟨x1, 0, none⟩) n n :: .slice (some ⟨x2, 0, none⟩) n n :: u11 :: .int .i64 (t : Int) :: .int .i64 (e0 : Int) :: .slice (some ⟨x1, t, none⟩) k (n - t) :: .slice (some ⟨x2, t, none⟩) k (n - t) :: u16 :: u17 :: u18 :: u19 :: u20 :: u21 :: u22 :: u23 :: u24 :: u25 :: u26 :: u27 :: u28 :: u29 :: u30 :: u31 :: u32 :: u33 :: u34 :: u35 :: u36 :: u37 :: u38 :: u39 :: u40 :: u41 :: u42 :: u43 :: u44 :: u45 :: u46 :: u47 :: u48 :: u49 :: u50 :: u51 :: u52 :: u53 :: u54 :: u55 :: u56 :: u57 :: u58 :: u59 :: u60 :: u61 :: u62 :: u63 :: u64 :: u65 :: u66 :: u67 :: u68 :: u69 :: u70 :: u71 :: u72 :: u73 :: u74 :: u75 :: u76 :: u77 :: u78 :: u79 :: u80 :: u81 :: u82 :: u83 :: u84 :: u85 :: u86 :: u87 :: .slice (some ⟨x1, 0, none⟩) n n :: .int .i64 (t : Int) :: .int .i64 (e0 : Int) :: .slice (some ⟨x1, t, none⟩) k (n - t) :: .slice (some ⟨x2, 0, none⟩) n n :: .int .i64 (t : Int) :: .int .i64 (e0 : Int) :: .slice (some ⟨x2, t, none⟩) k (n - t) :: u96 :: u97 :: u98 :: u99 :: u100 :: u101 :: u102 :: u103 :: u104 :: u105 :: u106 :: u107 :: u108 :: u109 :: u110 :: u111 :: u112 :: u113 :: u114 :: u115 :: u116 :: u117 :: u118 :: u119 :: u120 :: u121 :: u122 :: u123 :: u124 :: u125 :: u126 :: u127 :: u128 :: u129 :: u130 :: u131 :: u132 :: u133 :: u134 :: u135 :: u136 :: u137 :: u138 :: u139 :: u140 :: u141 :: u142 :: u143 :: u144 :: u145 :: u146 :: u147 :: u148 :: u149 :: u150 :: u151 :: u152 :: u153 :: []) : List Value)), defers := [] } w.drew) :
    (Code.region 17 #[{ dst := some 88, op := Op.move (Operand.tmp 9), type := 23, pos := "ref.go:296", after := #[], guard := none }, { dst := some 89, op := Op.move (Operand.tmp 12), type := 3, pos := "ref.go:296", after := #[], guard := none }, { dst := some 90, op := Op.move (Operand.tmp 13), type := 3, pos := "ref.go:296", after := #[], guard := none }, { dst := some 91, op := Op.slice 23 (Operand.tmp 88) (some (Operand.tmp 89)) (some (Operand.tmp 90)) none, type := 23, pos := "ref.go:296", after := #[{ on := 0, ground := Ground.data }, { on := 1, ground := Ground.data }, { on := 2, ground := Ground.data }], guard := none }, { dst := some 92, op := Op.move (Operand.tmp 10), type := 23, pos := "ref.go:296", after := #[], guard := none }, { dst := some 93, op := Op.move (Operand.tmp 12), type := 3, pos := "ref.go:296", after := #[], guard := none }, { dst := some 94, op := Op.move (Operand.tmp 13), type := 3, pos := "ref.go:296", after := #[], guard := none }, { dst := some 95, op := Op.slice 23 (Operand.tmp 92) (some (Operand.tmp 93)) (some (Operand.tmp 94)) none, type := 23, pos := "ref.go:296", after := #[{ on := 4, ground := Ground.data }, { on := 5, ground := Ground.data }, { on := 6, ground := Ground.data }], guard := none }, { dst := some 14, op := Op.assign (Operand.tmp 91), type := 23, pos := "ref.go:296", after := #[{ on := 3, ground := Ground.data }, { on := 0, ground := Ground.phase }, { on := 1, ground := Ground.phase }, { on := 2, ground := Ground.phase }, { on := 3, ground := Ground.phase }, { on := 4, ground := Ground.textOnly Departure.lateStores }, { on := 5, ground := Ground.textOnly Departure.lateStores }, { on := 6, ground := Ground.textOnly Departure.lateStores }, { on := 7, ground := Ground.textOnly Departure.lateStoresUnsure }], guard := none }, { dst := some 15, op := Op.assign (Operand.tmp 95), type := 23, pos := "ref.go:296", after := #[{ on := 7, ground := Ground.data }, { on := 8, ground := Ground.chain }, { on := 0, ground := Ground.phase }, { on := 1, ground := Ground.phase }, { on := 2, ground := Ground.phase }, { on := 3, ground := Ground.phase }, { on := 4, ground := Ground.phase }, { on := 5, ground := Ground.phase }, { on := 6, ground := Ground.phase }, { on := 7, ground := Ground.phase }, { on := 8, ground := Ground.phase }], guard := none }] true).wp Try.prog Q { tmps := (List.toArray ((u0 :: u1 :: u2 :: u3 :: u4 :: u5 :: u6 :: u7 :: u8 :: .slice (some ⟨x1, 0, none⟩) n n :: .slice (some ⟨x2, 0, none⟩) n n :: u11 :: .int .i64 (t : Int) :: .int .i64 (e0 : Int) :: u14 :: u15 :: u16 :: u17 :: u18 :: u19 :: u20 :: u21 :: u22 :: u23 :: u24 :: u25 :: u26 :: u27 :: u28 :: u29 :: u30 :: u31 :: u32 :: u33 :: u34 :: u35 :: u36 :: u37 :: u38 :: u39 :: u40 :: u41 :: u42 :: u43 :: u44 :: u45 :: u46 :: u47 :: u48 :: u49 :: u50 :: u51 :: u52 :: u53 :: u54 :: u55 :: u56 :: u57 :: u58 :: u59 :: u60 :: u61 :: u62 :: u63 :: u64 :: u65 :: u66 :: u67 :: u68 :: u69 :: u70 :: u71 :: u72 :: u73 :: u74 :: u75 :: u76 :: u77 :: u78 :: u79 :: u80 :: u81 :: u82 :: u83 :: u84 :: u85 :: u86 :: u87 :: u88 :: u89 :: u90 :: u91 :: u92 :: u93 :: u94 :: u95 :: u96 :: u97 :: u98 :: u99 :: u100 :: u101 :: u102 :: u103 :: u104 :: u105 :: u106 :: u107 :: u108 :: u109 :: u110 :: u111 :: u112 :: u113 :: u114 :: u115 :: u116 :: u117 :: u118 :: u119 :: u120 :: u121 :: u122 :: u123 :: u124 :: u125 :: u126 :: u127 :: u128 :: u129 :: u130 :: u131 :: u132 :: u133 :: u134 :: u135 :: u136 :: u137 :: u138 :: u139 :: u140 :: u141 :: u142 :: u143 :: u144 :: u145 :: u146 :: u147 :: u148 :: u149 :: u150 :: u151 :: u152 :: u153 :: []) : List Value)), defers := [] } w := by
  replace h := hide h
  refine wp_region_noPanic ?_
  refine wp_region_any (by kernel_rfl) ?_
  change wpAny _ _ _ _ _ _ _ (World.drew w)
  refine wpAny_take (i := 0) (oi := { dst := some 88, op := Op.move (Operand.tmp 9), type := 23, pos := "ref.go:296", after := #[], guard := none }) (v := ?_) rfl (by kernel_rfl) (by kernel_rfl) (by kernel_rfl) (fun _ _ _ h => h) (Or.inl ⟨by rfl, ?_⟩) ?_
  rotate_left
  · intro w'
    go_simp
    try with_reducible rfl
  try simp only [Act.put, List.setIfInBounds_toArray, List.set_cons_zero, List.set_cons_succ]
  refine wpAny_take (i := 1) (oi := { dst := some 89, op := Op.move (Operand.tmp 12), type := 3, pos := "ref.go:296", after := #[], guard := none }) (v := ?_) rfl (by kernel_rfl) (by kernel_rfl) (by kernel_rfl) (fun _ _ _ h => h) (Or.inl ⟨by rfl, ?_⟩) ?_
  rotate_left
  · intro w'
    go_simp
    try with_reducible rfl
  try simp only [Act.put, List.setIfInBounds_toArray, List.set_cons_zero, List.set_cons_succ]
  refine wpAny_take (i := 2) (oi := { dst := some 90, op := Op.move (Operand.tmp 13), type := 3, pos := "ref.go:296", after := #[], guard := none }) (v := ?_) rfl (by kernel_rfl) (by kernel_rfl) (by kernel_rfl) (fun _ _ _ h => h) (Or.inl ⟨by rfl, ?_⟩) ?_
  rotate_left
  · intro w'
    go_simp
    try with_reducible rfl
  try simp only [Act.put, List.setIfInBounds_toArray, List.set_cons_zero, List.set_cons_succ]
  refine wpAny_take (i := 3) (oi := { dst := some 91, op := Op.slice 23 (Operand.tmp 88) (some (Operand.tmp 89)) (some (Operand.tmp 90)) none, type := 23, pos := "ref.go:296", after := #[{ on := 0, ground := Ground.data }, { on := 1, ground := Ground.data }, { on := 2, ground := Ground.data }], guard := none }) (v := ?_) rfl (by kernel_rfl) (by kernel_rfl) (by kernel_rfl) (fun _ _ _ h => h) (Or.inl ⟨by rfl, ?_⟩) ?_
  rotate_left
  · intro w'
    go_simp
    try with_reducible rfl
  try simp only [Act.put, List.setIfInBounds_toArray, List.set_cons_zero, List.set_cons_succ]
  refine wpAny_take (i := 4) (oi := { dst := some 92, op := Op.move (Operand.tmp 10), type := 23, pos := "ref.go:296", after := #[], guard := none }) (v := ?_) rfl (by kernel_rfl) (by kernel_rfl) (by kernel_rfl) (fun _ _ _ h => h) (Or.inl ⟨by rfl, ?_⟩) ?_
  rotate_left
  · intro w'
    go_simp
    try with_reducible rfl
  try simp only [Act.put, List.setIfInBounds_toArray, List.set_cons_zero, List.set_cons_succ]
  refine wpAny_take (i := 5) (oi := { dst := some 93, op := Op.move (Operand.tmp 12), type := 3, pos := "ref.go:296", after := #[], guard := none }) (v := ?_) rfl (by kernel_rfl) (by kernel_rfl) (by kernel_rfl) (fun _ _ _ h => h) (Or.inl ⟨by rfl, ?_⟩) ?_
  rotate_left
  · intro w'
    go_simp
    try with_reducible rfl
  try simp only [Act.put, List.setIfInBounds_toArray, List.set_cons_zero, List.set_cons_succ]
  refine wpAny_take (i := 6) (oi := { dst := some 94, op := Op.move (Operand.tmp 13), type := 3, pos := "ref.go:296", after := #[], guard := none }) (v := ?_) rfl (by kernel_rfl) (by kernel_rfl) (by kernel_rfl) (fun _ _ _ h => h) (Or.inl ⟨by rfl, ?_⟩) ?_
  rotate_left
  · intro w'
    go_simp
    try with_reducible rfl
  try simp only [Act.put, List.setIfInBounds_toArray, List.set_cons_zero, List.set_cons_succ]
  refine wpAny_take (i := 7) (oi := { dst := some 95, op := Op.slice 23 (Operand.tmp 92) (some (Operand.tmp 93)) (some (Operand.tmp 94)) none, type := 23, pos := "ref.go:296", after := #[{ on := 4, ground := Ground.data }, { on := 5, ground := Ground.data }, { on := 6, ground := Ground.data }], guard := none }) (v := ?_) rfl (by kernel_rfl) (by kernel_rfl) (by kernel_rfl) (fun _ _ _ h => h) (Or.inl ⟨by rfl, ?_⟩) ?_
  rotate_left
  · intro w'
    go_simp
    try with_reducible rfl
  try simp only [Act.put, List.setIfInBounds_toArray, List.set_cons_zero, List.set_cons_succ]
  refine wpAny_take (i := 8) (oi := { dst := some 14, op := Op.assign (Operand.tmp 91), type := 23, pos := "ref.go:296", after := #[{ on := 3, ground := Ground.data }, { on := 0, ground := Ground.phase }, { on := 1, ground := Ground.phase }, { on := 2, ground := Ground.phase }, { on := 3, ground := Ground.phase }, { on := 4, ground := Ground.textOnly Departure.lateStores }, { on := 5, ground := Ground.textOnly Departure.lateStores }, { on := 6, ground := Ground.textOnly Departure.lateStores }, { on := 7, ground := Ground.textOnly Departure.lateStoresUnsure }], guard := none }) (v := ?_) rfl (by kernel_rfl) (by kernel_rfl) (by kernel_rfl) (fun _ _ _ h => h) (Or.inl ⟨by rfl, ?_⟩) ?_
  rotate_left
  · intro w'
    go_simp
    try with_reducible rfl
  try simp only [Act.put, List.setIfInBounds_toArray, List.set_cons_zero, List.set_cons_succ]
  refine wpAny_take (i := 9) (oi := { dst := some 15, op := Op.assign (Operand.tmp 95), type := 23, pos := "ref.go:296", after := #[{ on := 7, ground := Ground.data }, { on := 8, ground := Ground.chain }, { on := 0, ground := Ground.phase }, { on := 1, ground := Ground.phase }, { on := 2, ground := Ground.phase }, { on := 3, ground := Ground.phase }, { on := 4, ground := Ground.phase }, { on := 5, ground := Ground.phase }, { on := 6, ground := Ground.phase }, { on := 7, ground := Ground.phase }, { on := 8, ground := Ground.phase }], guard := none }) (v := ?_) rfl (by kernel_rfl) (by kernel_rfl) (by kernel_rfl) (fun _ _ _ h => h) (Or.inl ⟨by rfl, ?_⟩) ?_
  rotate_left
  · intro w'
    go_simp
    try with_reducible rfl
  try simp only [Act.put, List.setIfInBounds_toArray, List.set_cons_zero, List.set_cons_succ]
  refine wpAny_done (by kernel_rfl) ?_ _
  refine NoPanic.normal ?_
  exact h.out

/-- 's[k:]', wherever it ends. -/
theorem run_tail (w0 : World) (b off len cap k : Nat) (l : List Int) (h : Has w0 (some ⟨b, off, none⟩) len cap l) (hk : k ≤ len) : ∃ off', (∀ w : World, (Instr.sliceAt 23 (.slice (some ⟨b, off, none⟩) len cap) (some (.int .i64 (k : Int))) none none).run Try.prog w = .ok (.slice (some ⟨b, off', none⟩) (len - k) (cap - k)) w) ∧ Has w0 (some ⟨b, off', none⟩) (len - k) (cap - k) (l.drop k) := by
  have hc := h.le
  by_cases hlt : k < cap
  · exact ⟨off + k, fun w => run_lo w b off len cap k hk hc hlt, h.back k hk⟩
  · obtain rfl : k = cap := by omega
    obtain rfl : len = k := by omega
    refine ⟨off, fun w => ?_, ?_⟩
    · have i1 : (len : Int) ≤ (len : Int) := by omega
      have hz : (Try.prog.info? 5).map (·.size) = some 1 := by
        obtain ⟨i0, hi, hz0, hz1, hz2⟩ := info_parts info5
        simp [hi, hz1]
      simp [go_sem, i1, add_plain]
    · have hl := h.hlen
      refine ⟨by simp; omega, by omega, by omega, (fun h => by cases h), fun hp => by omega, fun x hx => h.bytes x (List.mem_of_mem_drop hx)⟩
theorem Has.piece {w : World} {b n : Nat} {l : List Int} (h : Has w (some ⟨b, 0, none⟩) n n l) (t k : Nat) (hk : t + k ≤ n) : ∃ l', Has w (some ⟨b, t, none⟩) k (n - t) l' := by
  have h1 := h.back t (by omega)
  rw [Nat.zero_add] at h1
  exact ⟨_, h1.front k (by omega)⟩
/-- How Crash ends. -/
def RResU (w : World) (y : Nat) (R : Nat → Prop) (k : Nat) (e : Ending) (w' : World) : Prop := ∃ r' R', e = .returned (.tuple #[]) ∧ Ref w' y r' R' ∧ Rw2 r' k ∧ But R w w' ∧ ∀ x, R' x → R x ∨ w.heap.size ≤ x
/-- Between two rounds of Crash. -/
structure CI (w : World) (y : Nat) (r : RM) (I : Nat → Prop) (vF vD vS : Value) (L : List Ent) (wr : World) (r' : RM) (J : Nat → Prop) : Prop where
  rk : Rk wr y r' J vF vD vS
  ef : r'.F.length = r.F.length
  ed : r'.D = L
  es : r'.S = r.S
  en : r'.dn = r.dn
  bt : But (Ry y I vF) w wr
  jj : ∀ x, J x → I x ∨ w.heap.size ≤ x
/-- The bytes that a crash leaves, on the way. -/
def Ow (wb wr : World) (a : Option Addr) (m c : Nat) : Prop := ∃ l, wr.ownsRow wb.heap.size 5 1 (.slice a m c) m (u8s l) ∧ Byt l
theorem Ow.app {wb w1 : World} {a : Option Addr} {m c : Nat} (h : Ow wb w1 a m c) (hm : m ≤ 4194304) (hb : Below wb.heap.size wb w1) {ax : Option Addr} {len cap : Nat} {lx : List Int} (hh : Has w1 ax len cap lx) (hl : len ≤ 4194304) :
    ∃ a' c' w', (Builtin.append_ #[23, 23] 23 #[.slice a m c, .slice ax len cap]).run Try.prog w1 = .ok (.slice a' (m + len) c') w' ∧ Ow wb w' a' (m + len) c' ∧ Below wb.heap.size wb w' ∧ But (fun x => (Value.slice a m c).ownBlock = some x) w1 w' := by
  obtain ⟨l, O, hB⟩ := h
  obtain ⟨v', w', hr, O', G⟩ := run_app w1 23 wb.heap.size _ m l O ax len cap lx hh (by omega) hb.size
  have hB' : Byt (l ++ lx) := fun x hx => by
    rcases List.mem_append.1 hx with hx | hx
    · exact hB x hx
    · exact hh.bytes x hx
  obtain ⟨a', c', e', _⟩ := has_of_owns O' hB'
  subst e'
  exact ⟨a', c', w', hr, ⟨_, O', hB'⟩, hb.grown G hb.size (fun q e => (O.lt q e).1), (But.refl _ w1).grown G (fun k e _ => e)⟩
section
variable {w : World} {y : Nat} {r : RM} {I : Nat → Prop} {vF vD vS : Value} {K : Nat}
/-- A file is stored whole. -/
theorem CI.store {L : List Ent} {wr wz : World} {r' : RM} {J : Nat → Prop} (h : CI w y r I vF vD vS L wr r' J) (hB : Below wr.heap.size wr wz) {g c x : Nat} (eF : vF = .slice (some ⟨g, 0, none⟩) r'.F.length c) (hx : x < r'.F.length) {a8 : Option Addr} {n8 c8 : Nat} (O : Ow wr wz a8 n8 c8) (hn : n8 ≤ 4194304) :
    ∃ r2 J2, CI w y r I vF vD vS L ((wz.setCell ⟨g, x * 2, none⟩ (.slice a8 n8 c8)).setCell ⟨g, x * 2 + 1, none⟩ (.slice a8 n8 c8)).drew r2 J2 := by
  obtain ⟨l, O, hb⟩ := O
  obtain ⟨_, _, e0, H8⟩ := has_of_owns O hb
  cases e0
  have hz := h.rk.below hB
  obtain ⟨p, hp⟩ : ∃ p, r'.F[x]? = some p := ⟨_, List.getElem?_eq_getElem hx⟩
  have hpm := List.mem_of_getElem? hp
  have L8 : ∀ k, (Value.slice a8 n8 c8).ownBlock = some k → wr.heap.size ≤ k ∧ k < wz.heap.size := fun k hk => O.lt k hk
  have hgl : g < wr.heap.size := (h.rk.ow.lt g (by rw [eF]; rfl)).2
  have hgF : vF.ownBlock = some g := by rw [eF]; rfl
  have hJy : ¬ (J y ∨ (Value.slice a8 n8 c8).ownBlock = some y) := by
    rintro (hi | hi)
    · exact h.rk.iy hi
    · have := (L8 _ hi).1
      have := h.rk.yb.lt
      omega
  have hJg : ¬ (J g ∨ (Value.slice a8 n8 c8).ownBlock = some g) := by
    rintro (hi | hi)
    · exact (h.rk.ik g hgF).1 hi
    · have := (L8 _ hi).1
      omega
  have s8 : Sl wz (fun k => J k ∨ (Value.slice a8 n8 c8).ownBlock = some k) (.slice a8 n8 c8) := ⟨a8, n8, c8, l, rfl, H8, hn, fun _ k hk => .inr hk⟩
  obtain ⟨D5, b5⟩ := hz.store (i := x * 2) (p' := (.slice a8 n8 c8, p.2)) eF hp (.slice a8 n8 c8) (flat2_set _ _ _ _ hp).1 (J := fun k => J k ∨ (Value.slice a8 n8 c8).ownBlock = some k) (fun k hk => .inl hk) hJy hJg
    (by
      rintro k (hi | hi)
      · exact hz.lt k hi
      · exact (L8 _ hi).2) s8 ((hz.fl p hpm).2.more (fun k hk => .inl hk))
  have hp5 : (r'.F.set x (.slice a8 n8 c8, p.2))[x]? = some (.slice a8 n8 c8, p.2) := by simp [hx]
  have bJ : ∀ k, (J k ∨ (Value.slice a8 n8 c8).ownBlock = some k) → ¬ k = g := fun k hk e => hJg (e ▸ hk)
  obtain ⟨D6, b6⟩ := D5.store (i := x * 2 + 1) (p' := (.slice a8 n8 c8, .slice a8 n8 c8)) (c := c) (by rw [eF]; simp) hp5 (.slice a8 n8 c8) (flat2_set _ _ _ _ hp5).2 (J := fun k => J k ∨ (Value.slice a8 n8 c8).ownBlock = some k) (fun k hk => hk) hJy hJg
    (fun k hk => D5.lt k hk) (s8.but b5 bJ) (s8.but b5 bJ)
  have b7 : But (Ry y I vF) w ((wz.setCell ⟨g, x * 2, none⟩ (.slice a8 n8 c8)).setCell ⟨g, x * 2 + 1, none⟩ (.slice a8 n8 c8)) :=
    ((h.bt.trans (But.of_below hB (Ry y I vF)) (fun _ _ e => e)).trans (b5.mono (fun k e => (.inr (.inl (by rw [e]; exact hgF)) : Ry y I vF k))) (fun _ _ e => e)).trans (b6.mono (fun k e => (.inr (.inl (by rw [e]; exact hgF)) : Ry y I vF k))) (fun _ _ e => e)
  refine ⟨_, _, D6.drew, ?_, h.ed, h.es, h.en, b7.drew, ?_⟩
  · show ((r'.F.set x (.slice a8 n8 c8, p.2)).set x _).length = _
    rw [List.length_set, List.length_set]
    exact h.ef
  · rintro k (hk | hk)
    · exact h.jj k hk
    · exact .inr (Nat.le_trans h.bt.size (L8 k hk).1)

set_option maxHeartbeats 16000000 in
set_option maxRecDepth 100000 in
theorem rcrash_any (h : Rk w y r I vF vD vS) (hw : Rw2 r K) (hK : K ≤ 100000) {ap : Option Addr} {np cp : Nat} {ps : List Int} (hP : Hi w ap np cp ps) (hPR : 0 < np → ∀ k, (Value.slice ap np cp).ownBlock = some k → ¬ Ry y I vF k) : Calls Try.prog 55 #[ptr y, .slice ap np cp] w (RResU w y (Ry y I vF) (K + 1)) := by
  have BA : Below w.heap.size w (w.alloc (.cells #[] 105)) := (Below.refl _ w).alloc (Nat.le_refl _) _
  obtain ⟨q0, q1, q2, q3, q4, q5, q6⟩ := (h.below BA).cs
  obtain ⟨aS0, nD, cS0, eS0, HS0, _⟩ := (h.below BA).ss
  subst eS0
  have hn := HS0.hlen
  have hnD : nD ≤ 100000 := by have := hw.s; omega
  have hFl : r.F.length ≤ 100000 := by have := hw.f; omega
  have O1 := hide (ownsE_nil w w.heap.size (Nat.le_refl _))
  have hZ : Hid (w.heap.size ≤ (w.alloc (.cells #[] 105)).heap.size) := BA.size
  replace HS0 := hide HS0
  replace BA := hide BA
  replace h := hide h
  replace hP := hide hP
  replace hPR := hide hPR
  replace hn := hide hn
  show Calls Try.prog 55 #[.pointer (some ⟨y, 0, none⟩), .slice ap np cp] w _
  go_enter Try.func55, Try.ntmps55
  go_wp2_with (first
    | (refine wpList_appEs rfl (.tmp 19) (.tmp 23) rfl w.heap.size _ 0 [] rfl O1.out _ _ _ _ rfl HS0.out (by omega) hZ.out ?_
       intro v8 w3 O8 G8
       rw [Nat.zero_add, List.nil_append] at O8
       have B3 := hide (BA.out.grown G8 hZ.out (fun q e => (O1.out.lt q e).1))
       obtain ⟨aD, cD, e8, H3⟩ := hasE_of_owns O8
       subst e8
       have D4 := hide (h.out.dir B3.out H3 (fun k hk => O8.lt k hk) (fun e he => h.out.xs e he))
       have C0 : Hid (∃ r' J, CI w y r I vF (.slice aD nD cD) (.slice aS0 nD cS0) r.S (w3.setCell ⟨y, 3, none⟩ (.slice aD nD cD)) r' J) := ⟨_, _, D4.out.1, rfl, rfl, rfl, rfl, D4.out.2.mono (fun x e => .inl e), fun x hx => by
         rcases hx with hx | hx
         · exact .inl hx
         · exact .inr hx.1⟩
       have f4 := (h.out.below B3.out).yb.fz 3
       obtain ⟨g0, g1, g2, g3, g4, g5, g6⟩ := (h.out.below B3.out).cs
       clear O8 G8 H3 D4 q0 q1 q2 q3 q4 q5 q6))
  obtain ⟨w4, hw4⟩ : ∃ x, w3.setCell ⟨y, 3, none⟩ (.slice aD nD cD) = x := ⟨_, rfl⟩
  rw [hw4] at C0
  simp only [hw4]
  clear hw4 f4 g0 g1 g2 g3 g4 g5 g6 B3
  go_loopw [4, 5] (fun nx i wr => ∃ k u : Nat, k ≤ nD ∧ nx = .int .i64 (u : Int) ∧ i = .int .i64 (k : Int) ∧ u ≤ k * 5000000 ∧ ∃ r' J, Hid (CI w y r I vF (.slice aD nD cD) (.slice aS0 nD cS0) r.S wr r' J)) (fun _ i _ => nD - (Lib.intOf i).toNat)
  case atStart =>
    obtain ⟨r', J, C⟩ := C0.out
    exact ⟨0, 0, Nat.zero_le _, rfl, rfl, Nat.zero_le _, r', J, C⟩
  case round =>
    clear C0
    rename World => wo
    obtain ⟨i, u, hi, rfl, rfl, hu, r', J, hCI⟩ := hrel
    obtain ⟨c0, c1, c2, c3, c4, c5, c6⟩ := hCI.out.rk.cs
    by_cases hin : i < nD
    · have i1 : (i : Int) < (nD : Int) := by omega
      obtain ⟨aD', nD', cD', eD', HD, _⟩ := hCI.out.rk.dd
      cases eD'
      obtain ⟨b, od, ea, hbl, hcl⟩ := HD.cells (by omega)
      subst ea
      have hxF := hCI.out.rk.xd _ (getD_mem (L := r'.D) (k := i) (by have := HD.hlen; omega))
      have ce := (hcl i hin).2
      generalize (r'.D.getD i noEnt).2 = x at ce hxF
      obtain ⟨g, of, cF, p, eF, hp, hpm, z1, z2, eo, gcur, hgb⟩ := hCI.out.rk.at hxF
      subst eo
      obtain ⟨aN, nN, cN, lN, eN, HN, hnN, _⟩ := (hCI.out.rk.fl p hpm).1
      obtain ⟨aS, nS, cS, lS, eS, HS, hnS, _⟩ := (hCI.out.rk.fl p hpm).2
      rw [eN] at z1
      rw [eS] at z2
      have eFl := hCI.out.ef
      obtain ⟨nF, hnF⟩ : ∃ nF, r'.F.length = nF := ⟨_, rfl⟩
      have hxF' : x < nF := by omega
      have eF0 := hide eF
      have hx := hide hxF
      rw [hnF] at eF
      have BW : Below wo.heap.size wo (wo.alloc (.cells #[.slice none 0 0, .slice none 0 0] 102)) := (Below.refl _ wo).alloc (Nat.le_refl _) _
      have hA := hCI.out.rk.below BW
      rw [eF] at c2
      have cA := hA.cs
      rw [eF] at cA
      have hgl : Hid (g < wo.heap.size) := hgb.lt
      go_wp2_with fail
      refine reg55_5 wo y g 0 nF cF b od nD cD i x _ _ (by omega) (by omega) c2 c3 ce z1 z2 rfl rfl cA.2.2.1 cA.2.2.2.1 ((BW.cell (p := ⟨b, od + i * 2 + 1, none⟩) hbl).trans ce) ((BW.cell (p := ⟨g, 0 + x * 2, none⟩) hgl.out).trans z1) ((BW.cell (p := ⟨g, 0 + x * 2 + 1, none⟩) hgl.out).trans z2) _ _ _ _ _ _ _ _ _ _ _ _ _ _ _ _ _ _ _ _ _ _ _ _ _ _ _ _ _ _ _ _ _ _ _ _ _ _ _ _ _ _ _ _ _ _ _ _ _ _ _ _ _ _ _ _ _ _ _ _ _ _ _ _ _ _ _ _ _ _ _ _ _ _ _ _ _ _ _ _ _ _ _ _ _ _ _ _ _ _ _ _ _ _ _ _ _ _ _ _ _ _ _ _ _ _ _ _ _ _ _ _ _ _ _ _ _ _ _ _ _ _ _ _ _ _ _ _ _ _ _ _ _ _ _ _ _ _ _ _ _ _ _ _ _ _ _ _ _ _ _ _ _ ?_
      obtain ⟨q, hq⟩ : ∃ q, wo.heap.size = q := ⟨_, rfl⟩
      have Xq : Bx ((wo.alloc (.cells #[.slice none 0 0, .slice none 0 0] 102)).drew.setRow q #[.slice aN nN cN, .slice aS nS cS]) q 102 #[.slice aN nN cN, .slice aS nS cS] := setRow_heap _ q _ _ 102 _ (by rw [← hq]; exact Bx.new wo 102 #[.slice none 0 0, .slice none 0 0])
      have Ba : Below wo.heap.size wo ((wo.alloc (.cells #[.slice none 0 0, .slice none 0 0] 102)).drew.setRow q #[.slice aN nN cN, .slice aS nS cS]) := by
        refine BW.drew.trans (B := wo.heap.size) ⟨rfl, rfl, rfl, by simp, fun k hk => setRow_other _ q k _ (by omega)⟩
      rw [hq]
      obtain ⟨wa, hwa⟩ : ∃ x, (wo.alloc (.cells #[.slice none 0 0, .slice none 0 0] 102)).drew.setRow q #[.slice aN nN cN, .slice aS nS cS] = x := ⟨_, rfl⟩
      rw [hwa] at Xq Ba
      rw [hwa]
      have q0 : wa.cell? ⟨q, 0, none⟩ = some (.slice aN nN cN) := Xq.cell 0
      have q1 : wa.cell? ⟨q, 1, none⟩ = some (.slice aS nS cS) := Xq.cell 1
      have hqa : Hid (q < wa.heap.size) := Xq.lt
      have HNa := hide (HN.kept (B := wo.heap.size) Ba (Nat.le_refl _))
      have HSa := hide (HS.kept (B := wo.heap.size) Ba (Nat.le_refl _))
      replace eF := eF0
      clear eF0
      replace hgb := hide hgb
      replace hbl := hide hbl
      replace z1 := hide z1
      replace z2 := hide z2
      replace ce := hide ce
      replace Ba := hide Ba
      replace hnF := hide hnF
      replace eFl := hide eFl
      clear hwa hq Xq HN HS HD hcl hA cA BW hp hpm eN eS c0 c1 c2 c3 c4 c5 c6 hxF
      by_cases hmore : (0 : Int) < (nN : Int) - (nS : Int)
      · obtain ⟨mr, hmr⟩ : ∃ mr : Nat, (nN : Int) - (nS : Int) = (mr : Int) := ⟨nN - nS, by omega⟩
        have hmr0 : 0 < mr := by omega
        have hmrb : nS + mr ≤ 4194304 := by omega
        have j0 : (0 : Int) < (mr : Int) := by omega
        have HPa := hide (hP.out.but (hCI.out.bt.trans (But.of_below Ba.out _) (fun _ _ e => e)) hPR.out)
        clear hmore
        go_wp2_with fail
        refine (pick_any wa _ _ _ _ HPa.out u (by omega)).mono ?_
        rintro e w' ⟨v, rfl, hv, hw'⟩; replace hw' := hw'.symm; subst hw'
        obtain ⟨qq, hqq⟩ : ∃ qq : Nat, v.tmod ((mr : Int) + 1) = (qq : Int) := ⟨(v.tmod ((mr : Int) + 1)).toNat, by rw [Int.tmod_eq_emod_of_nonneg hv.1]; have := Int.emod_nonneg v (show ((mr : Int) + 1) ≠ 0 by omega); omega⟩
        have hqb : qq ≤ mr := by
          rw [Int.tmod_eq_emod_of_nonneg hv.1] at hqq
          have := Int.emod_lt_of_pos v (show (0 : Int) < (mr : Int) + 1 by omega)
          omega
        obtain ⟨n, hnn⟩ : ∃ n, n = nS + qq := ⟨_, rfl⟩
        have hnb : n ≤ 4194304 := by omega
        have e3 : (nS : Int) + (qq : Int) = (n : Int) := by omega
        have e4 : ¬ ((mr : Int) + 1 = 0) := by omega
        replace hnn := hide hnn
        replace hv := hide hv
        go_wp2_with fail
        refine reg55_11 wa q n aN aS nN nS cN cS q0 q1 (fun x1 w' => ∃ l1, Has w' (some ⟨x1, 0, none⟩) n n l1 ∧ Below wa.heap.size wa w' ∧ wa.heap.size ≤ x1) (fun x1 x2 w' => (∃ l1, Has w' (some ⟨x1, 0, none⟩) n n l1) ∧ (∃ l2, Has w' (some ⟨x2, 0, none⟩) n n l2) ∧ Below wa.heap.size wa w' ∧ wa.heap.size ≤ x1 ∧ wa.heap.size ≤ x2) (fun wx hx => ?_) (fun x1 wx hx => ?_) _ _ _ _ _ _ _ _ _ _ _ _ _ _ _ _ _ _ _ _ _ _ _ _ _ _ _ _ _ _ _ _ _ _ _ _ _ _ _ _ _ _ _ _ _ _ _ _ _ _ _ _ _ _ _ _ _ _ _ _ _ _ _ _ _ _ _ _ _ _ _ _ _ _ _ _ _ _ _ _ _ _ _ _ _ _ _ _ _ _ _ _ _ _ _ _ _ _ _ _ _ _ _ _ _ _ _ _ _ _ _ _ _ _ _ _ _ _ _ _ _ _ _ _ _ _ _ _ _ _ _ _ _ _ _ _ _ _ _ _ _ _ _ _ _ _ _ _ _ _ _ _ _ ?_
        · subst hx
          refine (wide_any _ aN nN cN lN (HNa.out.kept (B := wa.heap.size) (Below.refl _ wa).drew (Nat.le_refl _)) n (by omega)).mono ?_
          rintro e w' ⟨x1, l1, rfl, h1, b1, hx1⟩
          have b1' : Below wa.heap.size wa w' := ((Below.refl _ wa).drew).trans b1
          exact ⟨x1, rfl, ⟨l1, h1, b1', hx1⟩, (b1'.cell (p := ⟨q, 1, none⟩) hqa.out).trans q1⟩
        · obtain ⟨l1, h1, b1, hx1⟩ := hx
          refine (wide_any wx aS nS cS lS (HSa.out.kept (B := wa.heap.size) b1 (Nat.le_refl _)) n (by omega)).mono ?_
          rintro e w' ⟨x2, l2, rfl, h2, b2, hx2⟩
          exact ⟨x2, rfl, ⟨l1, h1.kept b2 (Nat.le_refl _)⟩, ⟨l2, h2⟩, b1.trans (b2.mono b1.size), hx1, Nat.le_trans b1.size hx2⟩
        rintro x1 x2 wb ⟨⟨l1, H1⟩, ⟨l2, H2⟩, Bb, hx1, hx2⟩
        have Bwb : Hid (Below wo.heap.size wo wb) := Ba.out.trans (Bb.mono Ba.out.size)
        have hx2l : Hid (x2 < wb.heap.size ∨ n = 0) := by
          by_cases h0 : 0 < n
          · obtain ⟨b', off', e', hl', _⟩ := H2.cells h0
            cases e'
            exact .inl hl'
          · exact .inr (by omega)
        replace H1 := hide H1
        replace H2 := hide H2
        replace Bb := hide Bb
        replace hx1 := hide hx1
        replace hx2 := hide hx2
        have O0 : Hid (Ow wb (wb.alloc (.cells #[] 5)) (some ⟨wb.heap.size, 0, none⟩) 0 0) := ⟨[], owns_empty wb, fun x hx => by cases hx⟩
        have B0 : Hid (Below wb.heap.size wb (wb.alloc (.cells #[] 5))) := (Below.refl _ wb).alloc (Nat.le_refl _) _
        clear q0 q1
        go_wp2_with fail
        go_loopw [4, 11, 12] (fun nx vo i wz => ∃ (t u2 m : Nat) (aO : Option Addr) (cO : Nat), nx = .int .i64 (u2 : Int) ∧ vo = .slice aO m cO ∧ i = .int .i64 (t : Int) ∧ t ≤ n + 255 ∧ u2 ≤ (u + 1) + t ∧ m ≤ n ∧ Hid (m = min t n) ∧ Hid (Ow wb wz aO m cO) ∧ Hid (Below wb.heap.size wb wz)) (fun _ _ i _ => n - (Lib.intOf i).toNat)
        case atStart => exact ⟨0, (u + 1), 0, _, _, by go_num, rfl, rfl, by omega, by omega, by omega, (by show 0 = min 0 n; omega), O0, B0⟩
        case round =>
          clear O0 B0
          rename World => wz
          obtain ⟨t, u2, m, aO, cO, rfl, rfl, rfl, ht, hu2, hmn, hmt, OZ0, BZ0⟩ := hrel
          by_cases htl : t < n
          · have i1 : (t : Int) < (n : Int) := by omega
            obtain ⟨e0, he0⟩ : ∃ e0, min (t + 256) n = e0 := ⟨_, rfl⟩
            have y1 : (if (t : Int) + 256 < (n : Int) then (t : Int) + 256 else (n : Int)) = (e0 : Int) := by rw [← he0]; split <;> omega
            have y2 : (if (n : Int) < (t : Int) + 256 then (n : Int) else (t : Int) + 256) = (e0 : Int) := by rw [← he0]; split <;> omega
            have y3 : min (n : Int) ((t : Int) + 256) = (e0 : Int) := by rw [← he0]; omega
            have hte : t ≤ e0 ∧ e0 ≤ n := by omega
            obtain ⟨k, hk⟩ : ∃ k, e0 - t = k := ⟨_, rfl⟩
            have hkn : t + k ≤ n := by omega
            have hkm : Hid (t + k = min (t + 256) n) := by show t + k = min (t + 256) n; omega
            have hmt' : m = t := by have := hmt.out; omega
            have RH : Hid (∀ (w : World) (r : Nat), (Instr.sliceAt 23 (.slice (some ⟨r, 0, none⟩) n n) (some (.int .i64 (t : Int))) (some (.int .i64 (e0 : Int))) none).run Try.prog w = .ok (.slice (some ⟨r, t, none⟩) k (n - t)) w) := fun w r => by rw [← hk]; exact run_lh w r n t e0 htl hte.1 hte.2
            replace he0 := hide he0
            replace hk := hide hk
            replace hte := hide hte
            have hmt2 : Hid (∀ z, z ≤ k → m + z + (k - z) = min (t + 256) n) := fun z hz => by have := hkm.out; omega
            have hmkn : m + k ≤ n := by omega
            replace hmt' := hide hmt'
            go_wp2_with fail
            refine reg55_17 wz n t e0 k x1 x2 RH.out _ _ _ _ _ _ _ _ _ _ _ _ _ _ _ _ _ _ _ _ _ _ _ _ _ _ _ _ _ _ _ _ _ _ _ _ _ _ _ _ _ _ _ _ _ _ _ _ _ _ _ _ _ _ _ _ _ _ _ _ _ _ _ _ _ _ _ _ _ _ _ _ _ _ _ _ _ _ _ _ _ _ _ _ _ _ _ _ _ _ _ _ _ _ _ _ _ _ _ _ _ _ _ _ _ _ _ _ _ _ _ _ _ _ _ _ _ _ _ _ _ _ _ _ _ _ _ _ _ _ _ _ _ _ _ _ _ _ _ _ _ _ _ _ _ _ _ _ _ _ _ ?_
            have BZ : Hid (Below wb.heap.size wb wz.drew) := BZ0.out.drew
            have OZ : Hid (Ow wb wz.drew aO m cO) := OZ0.out
            obtain ⟨wv, hwv⟩ : ∃ x, wz.drew = x := ⟨_, rfl⟩
            rw [hwv] at BZ OZ
            rw [hwv]
            clear hwv BZ0 OZ0 RH y1 y2 y3
            obtain ⟨lA, HA⟩ := (H1.out.kept (B := wb.heap.size) BZ.out (Nat.le_refl _)).piece t k hkn
            obtain ⟨lB, HB⟩ := (H2.out.kept (B := wb.heap.size) BZ.out (Nat.le_refl _)).piece t k hkn
            have rA := run_string HA
            have rB := run_string HB
            generalize strOfNums lA = sA at rA
            generalize strOfNums lB = sB at rB
            replace HA := hide HA
            replace HB := hide HB
            cases hb : (ByteArray.toList sA == ByteArray.toList sB) with
            | true =>
              obtain ⟨lO, OO, hlO⟩ := OZ.out
              replace OO := hide OO
              go_wp2_with (first
                | (refine wpList_app rfl (.tmp 101) (.tmp 102) rfl wb.heap.size _ m lO rfl OO.out _ _ _ _ rfl HA.out (by omega) BZ.out.size ?_
                   intro v8 w8 O8 G8
                   have B8 := hide (BZ.out.grown G8 BZ.out.size (fun q e => (OO.out.lt q e).1))
                   have hby8 : Byt (lO ++ lA) := fun x hx => by
                     rcases List.mem_append.1 hx with hx | hx
                     · exact hlO x hx
                     · exact HA.out.bytes x hx
                   obtain ⟨a8, c8, e8, _⟩ := has_of_owns O8 hby8
                   subst e8
                   have OW8 : Hid (Ow wb w8 a8 (m + k) c8) := ⟨_, O8, hby8⟩
                   clear O8 G8 hby8))
              go_roundw
              case rel => exact ⟨t + 256, u2, m + k, a8, c8, rfl, rfl, by go_num, by omega, by omega, (by have := hmt'.out; omega), (by have := hmt2.out 0 (Nat.zero_le _); show m + k = min (t + 256) n; omega), OW8, B8⟩
              case measure => simp [Lib.intOf]; omega
            | false =>
              have HPv := hide (hP.out.but (hCI.out.bt.trans (But.of_below (Bwb.out.trans (BZ.out.mono Bwb.out.size)) _) (fun _ _ e => e)) hPR.out)
              go_wp2_with fail
              refine (pick_any wv _ _ _ _ HPv.out u2 (by omega)).mono ?_
              rintro e w' ⟨v, rfl, hv, hw⟩; replace hw := hw.symm; subst hw
              have t3 : v.tmod 3 = v % 3 := Int.tmod_eq_emod_of_nonneg hv.1
              by_cases h1 : v % 3 = 1
              · go_wp2_with fail
                obtain ⟨lA', HA'⟩ : ∃ l', Has wv (some ⟨x1, t, none⟩) k (n - t) l' := ⟨_, HA.out.front k (by omega)⟩
                have HAd : Has wv.drew (some ⟨x1, t, none⟩) k (n - t) lA' := HA'.kept (B := wv.heap.size) (Below.refl _ wv).drew (Nat.le_refl _)
                obtain ⟨a1, c1, w1, R1, OW1, BW1, bW1⟩ := Ow.app (w1 := wv.drew) OZ.out (by omega) BZ.out.drew HAd (by omega)
                obtain ⟨off', rs2, HT⟩ := run_tail wv x2 t k (n - t) k _ HB.out (by omega)
                have HT1 : Has w1 (some ⟨x2, off', none⟩) (k - k) (n - t - k) _ := (HT.kept (B := wv.heap.size) (Below.refl _ wv).drew (Nat.le_refl _)).but2 bW1 (fun _ j hj e => by
                  have e2 : x2 = j := Option.some.inj hj
                  obtain ⟨l, O, _⟩ := OZ.out
                  have := (O.lt j e).1
                  have := hx2l.out
                  omega)
                obtain ⟨a2, c2, w2, R2, OW2, BW2, bW2⟩ := Ow.app (w1 := w1) OW1 (by omega) BW1 HT1 (by omega)
                refine reg55_27 wv _ _ _ _ (some ⟨x1, t, none⟩) (some ⟨x2, t, none⟩) k (n - t) k (n - t) k (fun wx => run_h wx _ _ _ _ (by omega)) rs2 w1 w2 R1 R2 _ _ _ _ _ _ _ _ _ _ _ _ _ _ _ _ _ _ _ _ _ _ _ _ _ _ _ _ _ _ _ _ _ _ _ _ _ _ _ _ _ _ _ _ _ _ _ _ _ _ _ _ _ _ _ _ _ _ _ _ _ _ _ _ _ _ _ _ _ _ _ _ _ _ _ _ _ _ _ _ _ _ _ _ _ _ _ _ _ _ _ _ _ _ _ _ _ _ _ _ _ _ _ _ _ _ _ _ _ _ _ _ _ _ _ _ _ _ _ _ _ _ _ _ _ _ _ _ _ _ _ _ _ _ _ _ _ _ _ _ _ _ _ _ _ _ _ _ _ _ _ ?_
                replace OW2 := hide OW2
                replace BW2 := hide BW2
                clear HA' HAd R1 OW1 BW1 bW1 rs2 HT HT1 R2 bW2
                go_wp2_with fail
                go_roundw
                case rel => exact ⟨t + 256, u2 + 1, m + k + (k - k), a2, c2, by go_num, rfl, by go_num, by omega, by omega, (by have := hmt'.out; omega), (hmt2.out k (by omega) : m + k + (k - k) = min (t + 256) n), OW2, BW2⟩
                case measure => simp [Lib.intOf]; omega
              · by_cases h2 : v % 3 = 2
                · obtain ⟨nn, hnn⟩ : ∃ nn : Nat, v / 3 % 256 = (nn : Int) := ⟨(v / 3 % 256).toNat, by omega⟩
                  have t4 : v.tdiv 3 = v / 3 := Int.tdiv_eq_ediv_of_nonneg hv.1
                  have t5 : (v / 3).tmod 256 = (nn : Int) := by rw [Int.tmod_eq_emod_of_nonneg (by omega), hnn]
                  obtain ⟨kp, hkp⟩ : ∃ kp, min k nn = kp := ⟨_, rfl⟩
                  have z1 : (if (nn : Int) < (k : Int) then (nn : Int) else (k : Int)) = (kp : Int) := by rw [← hkp]; split <;> omega
                  have z2 : (if (k : Int) < (nn : Int) then (k : Int) else (nn : Int)) = (kp : Int) := by rw [← hkp]; split <;> omega
                  have z3 : min (k : Int) (nn : Int) = (kp : Int) := by rw [← hkp]; omega
                  have hkpk : kp ≤ k := by omega
                  replace hkp := hide hkp
                  replace hnn := hide hnn
                  go_wp2_with fail
                  obtain ⟨lA', HA'⟩ : ∃ l', Has wv (some ⟨x1, t, none⟩) kp (n - t) l' := ⟨_, HA.out.front kp (by omega)⟩
                  have HAd : Has wv.drew (some ⟨x1, t, none⟩) kp (n - t) lA' := HA'.kept (B := wv.heap.size) (Below.refl _ wv).drew (Nat.le_refl _)
                  obtain ⟨a1, c1, w1, R1, OW1, BW1, bW1⟩ := Ow.app (w1 := wv.drew) OZ.out (by omega) BZ.out.drew HAd (by omega)
                  obtain ⟨off', rs2, HT⟩ := run_tail wv x2 t k (n - t) kp _ HB.out (by omega)
                  have HT1 : Has w1 (some ⟨x2, off', none⟩) (k - kp) (n - t - kp) _ := (HT.kept (B := wv.heap.size) (Below.refl _ wv).drew (Nat.le_refl _)).but2 bW1 (fun _ j hj e => by
                    have e2 : x2 = j := Option.some.inj hj
                    obtain ⟨l, O, _⟩ := OZ.out
                    have := (O.lt j e).1
                    have := hx2l.out
                    omega)
                  obtain ⟨a2, c2, w2, R2, OW2, BW2, bW2⟩ := Ow.app (w1 := w1) OW1 (by omega) BW1 HT1 (by omega)
                  refine reg55_27 wv _ _ _ _ (some ⟨x1, t, none⟩) (some ⟨x2, t, none⟩) k (n - t) k (n - t) kp (fun wx => run_h wx _ _ _ _ (by omega)) rs2 w1 w2 R1 R2 _ _ _ _ _ _ _ _ _ _ _ _ _ _ _ _ _ _ _ _ _ _ _ _ _ _ _ _ _ _ _ _ _ _ _ _ _ _ _ _ _ _ _ _ _ _ _ _ _ _ _ _ _ _ _ _ _ _ _ _ _ _ _ _ _ _ _ _ _ _ _ _ _ _ _ _ _ _ _ _ _ _ _ _ _ _ _ _ _ _ _ _ _ _ _ _ _ _ _ _ _ _ _ _ _ _ _ _ _ _ _ _ _ _ _ _ _ _ _ _ _ _ _ _ _ _ _ _ _ _ _ _ _ _ _ _ _ _ _ _ _ _ _ _ _ _ _ _ _ _ _ ?_
                  replace OW2 := hide OW2
                  replace BW2 := hide BW2
                  clear HA' HAd R1 OW1 BW1 bW1 rs2 HT HT1 R2 bW2
                  go_wp2_with fail
                  go_roundw
                  case rel => exact ⟨t + 256, u2 + 1, m + kp + (k - kp), a2, c2, by go_num, rfl, by go_num, by omega, by omega, (by have := hmt'.out; omega), (hmt2.out kp (by omega) : m + kp + (k - kp) = min (t + 256) n), OW2, BW2⟩
                  case measure => simp [Lib.intOf]; omega
                · have h0 : v % 3 = 0 := by omega
                  go_wp2_with fail
                  obtain ⟨lA', HA'⟩ : ∃ l', Has wv (some ⟨x1, t, none⟩) 0 (n - t) l' := ⟨_, HA.out.front 0 (by omega)⟩
                  have HAd : Has wv.drew (some ⟨x1, t, none⟩) 0 (n - t) lA' := HA'.kept (B := wv.heap.size) (Below.refl _ wv).drew (Nat.le_refl _)
                  obtain ⟨a1, c1, w1, R1, OW1, BW1, bW1⟩ := Ow.app (w1 := wv.drew) OZ.out (by omega) BZ.out.drew HAd (by omega)
                  obtain ⟨off', rs2, HT⟩ := run_tail wv x2 t k (n - t) 0 _ HB.out (by omega)
                  have HT1 : Has w1 (some ⟨x2, off', none⟩) (k - 0) (n - t - 0) _ := (HT.kept (B := wv.heap.size) (Below.refl _ wv).drew (Nat.le_refl _)).but2 bW1 (fun _ j hj e => by
                    have e2 : x2 = j := Option.some.inj hj
                    obtain ⟨l, O, _⟩ := OZ.out
                    have := (O.lt j e).1
                    have := hx2l.out
                    omega)
                  obtain ⟨a2, c2, w2, R2, OW2, BW2, bW2⟩ := Ow.app (w1 := w1) OW1 (by omega) BW1 HT1 (by omega)
                  refine reg55_27 wv _ _ _ _ (some ⟨x1, t, none⟩) (some ⟨x2, t, none⟩) k (n - t) k (n - t) 0 (fun wx => run_h wx _ _ _ _ (by omega)) rs2 w1 w2 R1 R2 _ _ _ _ _ _ _ _ _ _ _ _ _ _ _ _ _ _ _ _ _ _ _ _ _ _ _ _ _ _ _ _ _ _ _ _ _ _ _ _ _ _ _ _ _ _ _ _ _ _ _ _ _ _ _ _ _ _ _ _ _ _ _ _ _ _ _ _ _ _ _ _ _ _ _ _ _ _ _ _ _ _ _ _ _ _ _ _ _ _ _ _ _ _ _ _ _ _ _ _ _ _ _ _ _ _ _ _ _ _ _ _ _ _ _ _ _ _ _ _ _ _ _ _ _ _ _ _ _ _ _ _ _ _ _ _ _ _ _ _ _ _ _ _ _ _ _ _ _ _ _ ?_
                  replace OW2 := hide OW2
                  replace BW2 := hide BW2
                  clear HA' HAd R1 OW1 BW1 bW1 rs2 HT HT1 R2 bW2
                  go_wp2_with fail
                  go_roundw
                  case rel => exact ⟨t + 256, u2 + 1, m + 0 + (k - 0), a2, c2, by go_num, rfl, by go_num, by omega, by omega, (by have := hmt'.out; omega), (hmt2.out 0 (by omega) : m + 0 + (k - 0) = min (t + 256) n), OW2, BW2⟩
                  case measure => simp [Lib.intOf]; omega
          · have i1 : ¬ ((t : Int) < (n : Int)) := by omega
            have hmN : m = n := by have := hmt.out; omega
            subst hmN
            have Bz : Hid (Below wo.heap.size wo wz) := Bwb.out.trans (BZ0.out.mono Bwb.out.size)
            have hz := hide (hCI.out.rk.below Bz.out)
            have OZ1 : Hid (Ow wo wz aO m cO) := by
              obtain ⟨l, O, hb⟩ := OZ0.out
              exact ⟨l, owns_mono O Bwb.out.size, hb⟩
            have NX := hide (hCI.out.store Bz.out eF.out hx.out OZ1.out (by omega))
            obtain ⟨d0, d1, d2, d3, d4, d5, d6⟩ := hz.out.cs
            have gz := hgb.out.below Bz.out
            rw [eF.out, hnF.out] at d2
            go_wp2_with fail
            refine reg55_28 wz y g 0 nF cF b od nD cD i x aO m cO (by omega) (by omega) d2 d3 ((Bz.out.cell (p := ⟨b, od + i * 2 + 1, none⟩) hbl.out).trans ce) (gz.fz _) (gz.fz _) _ _ ((Bz.out.cell (p := ⟨g, 0 + x * 2, none⟩) hgl.out).trans z1.out) ((Bz.out.cell (p := ⟨g, 0 + x * 2 + 1, none⟩) hgl.out).trans z2.out) _ _ _ _ _ _ _ _ _ _ _ _ _ _ _ _ _ _ _ _ _ _ _ _ _ _ _ _ _ _ _ _ _ _ _ _ _ _ _ _ _ _ _ _ _ _ _ _ _ _ _ _ _ _ _ _ _ _ _ _ _ _ _ _ _ _ _ _ _ _ _ _ _ _ _ _ _ _ _ _ _ _ _ _ _ _ _ _ _ _ _ _ _ _ _ _ _ _ _ _ _ _ _ _ _ _ _ _ _ _ _ _ _ _ _ _ _ _ _ _ _ _ _ _ _ _ _ _ _ _ _ _ _ _ _ _ _ _ _ _ _ _ _ _ _ _ _ _ _ _ _ _ ?_
            simp only [Nat.zero_add]
            obtain ⟨r2, J2, C2⟩ := NX.out
            replace C2 := hide C2
            clear d0 d1 d2 d3 d4 d5 d6 gz NX
            go_wp2_with fail
            go_roundw
            case rel => exact ⟨i + 1, u2, by omega, rfl, by go_num, by omega, r2, J2, C2⟩
            case measure => simp [Lib.intOf]; omega
      · obtain ⟨n, hn'⟩ : ∃ n, n = nS := ⟨_, rfl⟩
        subst hn'
        go_wp2_with fail
        refine reg55_11 wa q n aN aS nN n cN cS q0 q1 (fun x1 w' => ∃ l1, Has w' (some ⟨x1, 0, none⟩) n n l1 ∧ Below wa.heap.size wa w' ∧ wa.heap.size ≤ x1) (fun x1 x2 w' => (∃ l1, Has w' (some ⟨x1, 0, none⟩) n n l1) ∧ (∃ l2, Has w' (some ⟨x2, 0, none⟩) n n l2) ∧ Below wa.heap.size wa w' ∧ wa.heap.size ≤ x1 ∧ wa.heap.size ≤ x2) (fun wx hx => ?_) (fun x1 wx hx => ?_) _ _ _ _ _ _ _ _ _ _ _ _ _ _ _ _ _ _ _ _ _ _ _ _ _ _ _ _ _ _ _ _ _ _ _ _ _ _ _ _ _ _ _ _ _ _ _ _ _ _ _ _ _ _ _ _ _ _ _ _ _ _ _ _ _ _ _ _ _ _ _ _ _ _ _ _ _ _ _ _ _ _ _ _ _ _ _ _ _ _ _ _ _ _ _ _ _ _ _ _ _ _ _ _ _ _ _ _ _ _ _ _ _ _ _ _ _ _ _ _ _ _ _ _ _ _ _ _ _ _ _ _ _ _ _ _ _ _ _ _ _ _ _ _ _ _ _ _ _ _ _ _ _ ?_
        · subst hx
          refine (wide_any _ aN nN cN lN (HNa.out.kept (B := wa.heap.size) (Below.refl _ wa).drew (Nat.le_refl _)) n (by omega)).mono ?_
          rintro e w' ⟨x1, l1, rfl, h1, b1, hx1⟩
          have b1' : Below wa.heap.size wa w' := ((Below.refl _ wa).drew).trans b1
          exact ⟨x1, rfl, ⟨l1, h1, b1', hx1⟩, (b1'.cell (p := ⟨q, 1, none⟩) hqa.out).trans q1⟩
        · obtain ⟨l1, h1, b1, hx1⟩ := hx
          refine (wide_any wx aS n cS lS (HSa.out.kept (B := wa.heap.size) b1 (Nat.le_refl _)) n (by omega)).mono ?_
          rintro e w' ⟨x2, l2, rfl, h2, b2, hx2⟩
          exact ⟨x2, rfl, ⟨l1, h1.kept b2 (Nat.le_refl _)⟩, ⟨l2, h2⟩, b1.trans (b2.mono b1.size), hx1, Nat.le_trans b1.size hx2⟩
        rintro x1 x2 wb ⟨⟨l1, H1⟩, ⟨l2, H2⟩, Bb, hx1, hx2⟩
        have Bwb : Hid (Below wo.heap.size wo wb) := Ba.out.trans (Bb.mono Ba.out.size)
        have hx2l : Hid (x2 < wb.heap.size ∨ n = 0) := by
          by_cases h0 : 0 < n
          · obtain ⟨b', off', e', hl', _⟩ := H2.cells h0
            cases e'
            exact .inl hl'
          · exact .inr (by omega)
        replace H1 := hide H1
        replace H2 := hide H2
        replace Bb := hide Bb
        replace hx1 := hide hx1
        replace hx2 := hide hx2
        have O0 : Hid (Ow wb (wb.alloc (.cells #[] 5)) (some ⟨wb.heap.size, 0, none⟩) 0 0) := ⟨[], owns_empty wb, fun x hx => by cases hx⟩
        have B0 : Hid (Below wb.heap.size wb (wb.alloc (.cells #[] 5))) := (Below.refl _ wb).alloc (Nat.le_refl _) _
        clear q0 q1
        go_wp2_with fail
        go_loopw [4, 11, 12] (fun nx vo i wz => ∃ (t u2 m : Nat) (aO : Option Addr) (cO : Nat), nx = .int .i64 (u2 : Int) ∧ vo = .slice aO m cO ∧ i = .int .i64 (t : Int) ∧ t ≤ n + 255 ∧ u2 ≤ u + t ∧ m ≤ n ∧ Hid (m = min t n) ∧ Hid (Ow wb wz aO m cO) ∧ Hid (Below wb.heap.size wb wz)) (fun _ _ i _ => n - (Lib.intOf i).toNat)
        case atStart => exact ⟨0, u, 0, _, _, rfl, rfl, rfl, by omega, by omega, by omega, (by show 0 = min 0 n; omega), O0, B0⟩
        case round =>
          clear O0 B0
          rename World => wz
          obtain ⟨t, u2, m, aO, cO, rfl, rfl, rfl, ht, hu2, hmn, hmt, OZ0, BZ0⟩ := hrel
          by_cases htl : t < n
          · have i1 : (t : Int) < (n : Int) := by omega
            obtain ⟨e0, he0⟩ : ∃ e0, min (t + 256) n = e0 := ⟨_, rfl⟩
            have y1 : (if (t : Int) + 256 < (n : Int) then (t : Int) + 256 else (n : Int)) = (e0 : Int) := by rw [← he0]; split <;> omega
            have y2 : (if (n : Int) < (t : Int) + 256 then (n : Int) else (t : Int) + 256) = (e0 : Int) := by rw [← he0]; split <;> omega
            have y3 : min (n : Int) ((t : Int) + 256) = (e0 : Int) := by rw [← he0]; omega
            have hte : t ≤ e0 ∧ e0 ≤ n := by omega
            obtain ⟨k, hk⟩ : ∃ k, e0 - t = k := ⟨_, rfl⟩
            have hkn : t + k ≤ n := by omega
            have hkm : Hid (t + k = min (t + 256) n) := by show t + k = min (t + 256) n; omega
            have hmt' : m = t := by have := hmt.out; omega
            have RH : Hid (∀ (w : World) (r : Nat), (Instr.sliceAt 23 (.slice (some ⟨r, 0, none⟩) n n) (some (.int .i64 (t : Int))) (some (.int .i64 (e0 : Int))) none).run Try.prog w = .ok (.slice (some ⟨r, t, none⟩) k (n - t)) w) := fun w r => by rw [← hk]; exact run_lh w r n t e0 htl hte.1 hte.2
            replace he0 := hide he0
            replace hk := hide hk
            replace hte := hide hte
            have hmt2 : Hid (∀ z, z ≤ k → m + z + (k - z) = min (t + 256) n) := fun z hz => by have := hkm.out; omega
            have hmkn : m + k ≤ n := by omega
            replace hmt' := hide hmt'
            go_wp2_with fail
            refine reg55_17 wz n t e0 k x1 x2 RH.out _ _ _ _ _ _ _ _ _ _ _ _ _ _ _ _ _ _ _ _ _ _ _ _ _ _ _ _ _ _ _ _ _ _ _ _ _ _ _ _ _ _ _ _ _ _ _ _ _ _ _ _ _ _ _ _ _ _ _ _ _ _ _ _ _ _ _ _ _ _ _ _ _ _ _ _ _ _ _ _ _ _ _ _ _ _ _ _ _ _ _ _ _ _ _ _ _ _ _ _ _ _ _ _ _ _ _ _ _ _ _ _ _ _ _ _ _ _ _ _ _ _ _ _ _ _ _ _ _ _ _ _ _ _ _ _ _ _ _ _ _ _ _ _ _ _ _ _ _ _ _ ?_
            have BZ : Hid (Below wb.heap.size wb wz.drew) := BZ0.out.drew
            have OZ : Hid (Ow wb wz.drew aO m cO) := OZ0.out
            obtain ⟨wv, hwv⟩ : ∃ x, wz.drew = x := ⟨_, rfl⟩
            rw [hwv] at BZ OZ
            rw [hwv]
            clear hwv BZ0 OZ0 RH y1 y2 y3
            obtain ⟨lA, HA⟩ := (H1.out.kept (B := wb.heap.size) BZ.out (Nat.le_refl _)).piece t k hkn
            obtain ⟨lB, HB⟩ := (H2.out.kept (B := wb.heap.size) BZ.out (Nat.le_refl _)).piece t k hkn
            have rA := run_string HA
            have rB := run_string HB
            generalize strOfNums lA = sA at rA
            generalize strOfNums lB = sB at rB
            replace HA := hide HA
            replace HB := hide HB
            cases hb : (ByteArray.toList sA == ByteArray.toList sB) with
            | true =>
              obtain ⟨lO, OO, hlO⟩ := OZ.out
              replace OO := hide OO
              go_wp2_with (first
                | (refine wpList_app rfl (.tmp 101) (.tmp 102) rfl wb.heap.size _ m lO rfl OO.out _ _ _ _ rfl HA.out (by omega) BZ.out.size ?_
                   intro v8 w8 O8 G8
                   have B8 := hide (BZ.out.grown G8 BZ.out.size (fun q e => (OO.out.lt q e).1))
                   have hby8 : Byt (lO ++ lA) := fun x hx => by
                     rcases List.mem_append.1 hx with hx | hx
                     · exact hlO x hx
                     · exact HA.out.bytes x hx
                   obtain ⟨a8, c8, e8, _⟩ := has_of_owns O8 hby8
                   subst e8
                   have OW8 : Hid (Ow wb w8 a8 (m + k) c8) := ⟨_, O8, hby8⟩
                   clear O8 G8 hby8))
              go_roundw
              case rel => exact ⟨t + 256, u2, m + k, a8, c8, rfl, rfl, by go_num, by omega, by omega, (by have := hmt'.out; omega), (by have := hmt2.out 0 (Nat.zero_le _); show m + k = min (t + 256) n; omega), OW8, B8⟩
              case measure => simp [Lib.intOf]; omega
            | false =>
              have HPv := hide (hP.out.but (hCI.out.bt.trans (But.of_below (Bwb.out.trans (BZ.out.mono Bwb.out.size)) _) (fun _ _ e => e)) hPR.out)
              go_wp2_with fail
              refine (pick_any wv _ _ _ _ HPv.out u2 (by omega)).mono ?_
              rintro e w' ⟨v, rfl, hv, hw⟩; replace hw := hw.symm; subst hw
              have t3 : v.tmod 3 = v % 3 := Int.tmod_eq_emod_of_nonneg hv.1
              by_cases h1 : v % 3 = 1
              · go_wp2_with fail
                obtain ⟨lA', HA'⟩ : ∃ l', Has wv (some ⟨x1, t, none⟩) k (n - t) l' := ⟨_, HA.out.front k (by omega)⟩
                have HAd : Has wv.drew (some ⟨x1, t, none⟩) k (n - t) lA' := HA'.kept (B := wv.heap.size) (Below.refl _ wv).drew (Nat.le_refl _)
                obtain ⟨a1, c1, w1, R1, OW1, BW1, bW1⟩ := Ow.app (w1 := wv.drew) OZ.out (by omega) BZ.out.drew HAd (by omega)
                obtain ⟨off', rs2, HT⟩ := run_tail wv x2 t k (n - t) k _ HB.out (by omega)
                have HT1 : Has w1 (some ⟨x2, off', none⟩) (k - k) (n - t - k) _ := (HT.kept (B := wv.heap.size) (Below.refl _ wv).drew (Nat.le_refl _)).but2 bW1 (fun _ j hj e => by
                  have e2 : x2 = j := Option.some.inj hj
                  obtain ⟨l, O, _⟩ := OZ.out
                  have := (O.lt j e).1
                  have := hx2l.out
                  omega)
                obtain ⟨a2, c2, w2, R2, OW2, BW2, bW2⟩ := Ow.app (w1 := w1) OW1 (by omega) BW1 HT1 (by omega)
                refine reg55_27 wv _ _ _ _ (some ⟨x1, t, none⟩) (some ⟨x2, t, none⟩) k (n - t) k (n - t) k (fun wx => run_h wx _ _ _ _ (by omega)) rs2 w1 w2 R1 R2 _ _ _ _ _ _ _ _ _ _ _ _ _ _ _ _ _ _ _ _ _ _ _ _ _ _ _ _ _ _ _ _ _ _ _ _ _ _ _ _ _ _ _ _ _ _ _ _ _ _ _ _ _ _ _ _ _ _ _ _ _ _ _ _ _ _ _ _ _ _ _ _ _ _ _ _ _ _ _ _ _ _ _ _ _ _ _ _ _ _ _ _ _ _ _ _ _ _ _ _ _ _ _ _ _ _ _ _ _ _ _ _ _ _ _ _ _ _ _ _ _ _ _ _ _ _ _ _ _ _ _ _ _ _ _ _ _ _ _ _ _ _ _ _ _ _ _ _ _ _ _ ?_
                replace OW2 := hide OW2
                replace BW2 := hide BW2
                clear HA' HAd R1 OW1 BW1 bW1 rs2 HT HT1 R2 bW2
                go_wp2_with fail
                go_roundw
                case rel => exact ⟨t + 256, u2 + 1, m + k + (k - k), a2, c2, by go_num, rfl, by go_num, by omega, by omega, (by have := hmt'.out; omega), (hmt2.out k (by omega) : m + k + (k - k) = min (t + 256) n), OW2, BW2⟩
                case measure => simp [Lib.intOf]; omega
              · by_cases h2 : v % 3 = 2
                · obtain ⟨nn, hnn⟩ : ∃ nn : Nat, v / 3 % 256 = (nn : Int) := ⟨(v / 3 % 256).toNat, by omega⟩
                  have t4 : v.tdiv 3 = v / 3 := Int.tdiv_eq_ediv_of_nonneg hv.1
                  have t5 : (v / 3).tmod 256 = (nn : Int) := by rw [Int.tmod_eq_emod_of_nonneg (by omega), hnn]
                  obtain ⟨kp, hkp⟩ : ∃ kp, min k nn = kp := ⟨_, rfl⟩
                  have z1 : (if (nn : Int) < (k : Int) then (nn : Int) else (k : Int)) = (kp : Int) := by rw [← hkp]; split <;> omega
                  have z2 : (if (k : Int) < (nn : Int) then (k : Int) else (nn : Int)) = (kp : Int) := by rw [← hkp]; split <;> omega
                  have z3 : min (k : Int) (nn : Int) = (kp : Int) := by rw [← hkp]; omega
                  have hkpk : kp ≤ k := by omega
                  replace hkp := hide hkp
                  replace hnn := hide hnn
                  go_wp2_with fail
                  obtain ⟨lA', HA'⟩ : ∃ l', Has wv (some ⟨x1, t, none⟩) kp (n - t) l' := ⟨_, HA.out.front kp (by omega)⟩
                  have HAd : Has wv.drew (some ⟨x1, t, none⟩) kp (n - t) lA' := HA'.kept (B := wv.heap.size) (Below.refl _ wv).drew (Nat.le_refl _)
                  obtain ⟨a1, c1, w1, R1, OW1, BW1, bW1⟩ := Ow.app (w1 := wv.drew) OZ.out (by omega) BZ.out.drew HAd (by omega)
                  obtain ⟨off', rs2, HT⟩ := run_tail wv x2 t k (n - t) kp _ HB.out (by omega)
                  have HT1 : Has w1 (some ⟨x2, off', none⟩) (k - kp) (n - t - kp) _ := (HT.kept (B := wv.heap.size) (Below.refl _ wv).drew (Nat.le_refl _)).but2 bW1 (fun _ j hj e => by
                    have e2 : x2 = j := Option.some.inj hj
                    obtain ⟨l, O, _⟩ := OZ.out
                    have := (O.lt j e).1
                    have := hx2l.out
                    omega)
                  obtain ⟨a2, c2, w2, R2, OW2, BW2, bW2⟩ := Ow.app (w1 := w1) OW1 (by omega) BW1 HT1 (by omega)
                  refine reg55_27 wv _ _ _ _ (some ⟨x1, t, none⟩) (some ⟨x2, t, none⟩) k (n - t) k (n - t) kp (fun wx => run_h wx _ _ _ _ (by omega)) rs2 w1 w2 R1 R2 _ _ _ _ _ _ _ _ _ _ _ _ _ _ _ _ _ _ _ _ _ _ _ _ _ _ _ _ _ _ _ _ _ _ _ _ _ _ _ _ _ _ _ _ _ _ _ _ _ _ _ _ _ _ _ _ _ _ _ _ _ _ _ _ _ _ _ _ _ _ _ _ _ _ _ _ _ _ _ _ _ _ _ _ _ _ _ _ _ _ _ _ _ _ _ _ _ _ _ _ _ _ _ _ _ _ _ _ _ _ _ _ _ _ _ _ _ _ _ _ _ _ _ _ _ _ _ _ _ _ _ _ _ _ _ _ _ _ _ _ _ _ _ _ _ _ _ _ _ _ _ ?_
                  replace OW2 := hide OW2
                  replace BW2 := hide BW2
                  clear HA' HAd R1 OW1 BW1 bW1 rs2 HT HT1 R2 bW2
                  go_wp2_with fail
                  go_roundw
                  case rel => exact ⟨t + 256, u2 + 1, m + kp + (k - kp), a2, c2, by go_num, rfl, by go_num, by omega, by omega, (by have := hmt'.out; omega), (hmt2.out kp (by omega) : m + kp + (k - kp) = min (t + 256) n), OW2, BW2⟩
                  case measure => simp [Lib.intOf]; omega
                · have h0 : v % 3 = 0 := by omega
                  go_wp2_with fail
                  obtain ⟨lA', HA'⟩ : ∃ l', Has wv (some ⟨x1, t, none⟩) 0 (n - t) l' := ⟨_, HA.out.front 0 (by omega)⟩
                  have HAd : Has wv.drew (some ⟨x1, t, none⟩) 0 (n - t) lA' := HA'.kept (B := wv.heap.size) (Below.refl _ wv).drew (Nat.le_refl _)
                  obtain ⟨a1, c1, w1, R1, OW1, BW1, bW1⟩ := Ow.app (w1 := wv.drew) OZ.out (by omega) BZ.out.drew HAd (by omega)
                  obtain ⟨off', rs2, HT⟩ := run_tail wv x2 t k (n - t) 0 _ HB.out (by omega)
                  have HT1 : Has w1 (some ⟨x2, off', none⟩) (k - 0) (n - t - 0) _ := (HT.kept (B := wv.heap.size) (Below.refl _ wv).drew (Nat.le_refl _)).but2 bW1 (fun _ j hj e => by
                    have e2 : x2 = j := Option.some.inj hj
                    obtain ⟨l, O, _⟩ := OZ.out
                    have := (O.lt j e).1
                    have := hx2l.out
                    omega)
                  obtain ⟨a2, c2, w2, R2, OW2, BW2, bW2⟩ := Ow.app (w1 := w1) OW1 (by omega) BW1 HT1 (by omega)
                  refine reg55_27 wv _ _ _ _ (some ⟨x1, t, none⟩) (some ⟨x2, t, none⟩) k (n - t) k (n - t) 0 (fun wx => run_h wx _ _ _ _ (by omega)) rs2 w1 w2 R1 R2 _ _ _ _ _ _ _ _ _ _ _ _ _ _ _ _ _ _ _ _ _ _ _ _ _ _ _ _ _ _ _ _ _ _ _ _ _ _ _ _ _ _ _ _ _ _ _ _ _ _ _ _ _ _ _ _ _ _ _ _ _ _ _ _ _ _ _ _ _ _ _ _ _ _ _ _ _ _ _ _ _ _ _ _ _ _ _ _ _ _ _ _ _ _ _ _ _ _ _ _ _ _ _ _ _ _ _ _ _ _ _ _ _ _ _ _ _ _ _ _ _ _ _ _ _ _ _ _ _ _ _ _ _ _ _ _ _ _ _ _ _ _ _ _ _ _ _ _ _ _ _ ?_
                  replace OW2 := hide OW2
                  replace BW2 := hide BW2
                  clear HA' HAd R1 OW1 BW1 bW1 rs2 HT HT1 R2 bW2
                  go_wp2_with fail
                  go_roundw
                  case rel => exact ⟨t + 256, u2 + 1, m + 0 + (k - 0), a2, c2, by go_num, rfl, by go_num, by omega, by omega, (by have := hmt'.out; omega), (hmt2.out 0 (by omega) : m + 0 + (k - 0) = min (t + 256) n), OW2, BW2⟩
                  case measure => simp [Lib.intOf]; omega
          · have i1 : ¬ ((t : Int) < (n : Int)) := by omega
            have hmN : m = n := by have := hmt.out; omega
            subst hmN
            have Bz : Hid (Below wo.heap.size wo wz) := Bwb.out.trans (BZ0.out.mono Bwb.out.size)
            have hz := hide (hCI.out.rk.below Bz.out)
            have OZ1 : Hid (Ow wo wz aO m cO) := by
              obtain ⟨l, O, hb⟩ := OZ0.out
              exact ⟨l, owns_mono O Bwb.out.size, hb⟩
            have NX := hide (hCI.out.store Bz.out eF.out hx.out OZ1.out (by omega))
            obtain ⟨d0, d1, d2, d3, d4, d5, d6⟩ := hz.out.cs
            have gz := hgb.out.below Bz.out
            rw [eF.out, hnF.out] at d2
            go_wp2_with fail
            refine reg55_28 wz y g 0 nF cF b od nD cD i x aO m cO (by omega) (by omega) d2 d3 ((Bz.out.cell (p := ⟨b, od + i * 2 + 1, none⟩) hbl.out).trans ce) (gz.fz _) (gz.fz _) _ _ ((Bz.out.cell (p := ⟨g, 0 + x * 2, none⟩) hgl.out).trans z1.out) ((Bz.out.cell (p := ⟨g, 0 + x * 2 + 1, none⟩) hgl.out).trans z2.out) _ _ _ _ _ _ _ _ _ _ _ _ _ _ _ _ _ _ _ _ _ _ _ _ _ _ _ _ _ _ _ _ _ _ _ _ _ _ _ _ _ _ _ _ _ _ _ _ _ _ _ _ _ _ _ _ _ _ _ _ _ _ _ _ _ _ _ _ _ _ _ _ _ _ _ _ _ _ _ _ _ _ _ _ _ _ _ _ _ _ _ _ _ _ _ _ _ _ _ _ _ _ _ _ _ _ _ _ _ _ _ _ _ _ _ _ _ _ _ _ _ _ _ _ _ _ _ _ _ _ _ _ _ _ _ _ _ _ _ _ _ _ _ _ _ _ _ _ _ _ _ _ ?_
            simp only [Nat.zero_add]
            obtain ⟨r2, J2, C2⟩ := NX.out
            replace C2 := hide C2
            clear d0 d1 d2 d3 d4 d5 d6 gz NX
            go_wp2_with fail
            go_roundw
            case rel => exact ⟨i + 1, u2, by omega, rfl, by go_num, by omega, r2, J2, C2⟩
            case measure => simp [Lib.intOf]; omega
    · have i1 : ¬ ((i : Int) < (nD : Int)) := by omega
      have f5 := hCI.out.rk.yb.fz 5
      have f6 := hCI.out.rk.yb.fz 6
      have fin : Hid (RResU w y (Ry y I vF) (K + 1) (.returned (.tuple #[])) ((wo.setCell ⟨y, 5, none⟩ (.int .i64 (-1))).setCell ⟨y, 6, none⟩ (.bool false))) := by
        have C := hCI.out
        have b1 := but_setCell wo y 5 (.int .i64 (-1))
        have b2 := b1.setCell (p := ⟨y, 6, none⟩) (fun _ => rfl) (.bool false)
        have X := (C.rk.yb.set1 5 (.int .i64 (-1))).set1 6 (.bool false)
        have D := C.rk.num (r' := { r' with lf := -1, gone := false }) b2 X rfl rfl rfl
        refine ⟨_, _, rfl, ⟨_, _, _, _, D, rfl⟩, ⟨?_, ?_, ?_, ?_, ?_⟩, C.bt.trans (b2.mono (fun x e => (.inl e : Ry y I vF x))) (fun _ _ e => e), ?_⟩
        · show r'.F.length ≤ _
          rw [C.ef]; have := hw.f; omega
        · show r'.D.length ≤ _
          rw [C.ed]; have := hw.s; omega
        · show r'.S.length ≤ _
          rw [C.es]; have := hw.s; omega
        · show 0 ≤ r'.dn ∧ r'.dn ≤ _
          rw [C.en]; have := hw.n; omega
        · show (-1 : Int) ≤ _
          omega
        · rintro x (e | e | e)
          · exact .inl (.inl e)
          · exact .inl (.inr (.inl e))
          · rcases C.jj x e with e | e
            · exact .inl (.inr (.inr e))
            · exact .inr e
      clear hCI
      go_wp2_with fail
      go_end0
      exact fin.out
end
end Go.Proofs.Ytgbijkdfhkkieaa
