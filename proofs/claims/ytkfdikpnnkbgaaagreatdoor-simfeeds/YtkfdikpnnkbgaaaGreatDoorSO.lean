/-
  Feed.
-/
import Derived.Test.YtkfdikpnnkbgaaaGreatDoorSN
namespace Go.Proofs.YtkfdikpnnkbgaaaGreatDoor
open Go.RowKit Go.Shelf
set_option linter.unusedVariables false
set_option linter.unusedSimpArgs false
attribute [local go_sem] Oper.semAt_some

/-- Cells that are written one by one. -/
def setsB (xs : Array Value) : Nat → List Value → Array Value
  | _, [] => xs
  | o, v :: r => setsB (xs.setIfInBounds o v) (o + 1) r
theorem setsB_mid : ∀ (vs cs p q : List Value), cs.length = vs.length → setsB (p ++ cs ++ q).toArray p.length vs = (p ++ vs ++ q).toArray
  | [], cs, p, q, h => by
    have : cs = [] := List.eq_nil_of_length_eq_zero h
    subst this; rfl
  | v :: r, [], p, q, h => by simp at h
  | v :: r, c :: cs, p, q, h => by
    have e : (p ++ c :: cs ++ q).toArray.setIfInBounds p.length v = ((p ++ [v]) ++ cs ++ q).toArray := by
      apply Array.ext'
      simp
    have := setsB_mid r cs (p ++ [v]) q (by simpa using h)
    show setsB ((p ++ c :: cs ++ q).toArray.setIfInBounds p.length v) (p.length + 1) r = _
    rw [e]
    simpa using this
section
variable {S : Nat → Prop} {w0 w : World} {L : List Ent}
theorem St.setCellsB {g : Nat} {t : TypeId} (i : Nat) : ∀ (vs : List Value) (o : Nat) (w : World) (L : List Ent) (xs : Array Value), St S w0 w L → L[i]? = some (true, g, t, xs) → St S w0 (w.setCells g o vs) (L.set i (true, g, t, setsB xs o vs))
  | [], o, w, L, xs, H, h => by
    have hl := (List.getElem?_eq_some_iff.1 h).1
    have he := (List.getElem?_eq_some_iff.1 h).2
    have : L.set i (true, g, t, xs) = L := by rw [← he]; simp
    show St S w0 w (L.set i (true, g, t, xs))
    rw [this]; exact H
  | v :: r, o, w, L, xs, H, h => by
    have hl := (List.getElem?_eq_some_iff.1 h).1
    have h2 := H.setRow i h (xs.setIfInBounds o v)
    rw [← setCell_eq_setRow w g o xs t (0, 0) v (H.get i h)] at h2
    have h3 := St.setCellsB (g := g) (t := t) i r (o + 1) _ _ (xs.setIfInBounds o v) h2 (show (L.set i (true, g, t, xs.setIfInBounds o v))[i]? = some (true, g, t, xs.setIfInBounds o v) by simp [hl])
    rw [List.set_set] at h3
    exact h3
end
set_option maxHeartbeats 4000000 in
set_option maxRecDepth 100000 in
theorem reg32_4 (n0 : Nat) (ds : List Deferred) (w : World) (gR g b m c : Nat) (ad : Option Addr) (c1 : w.cell? ⟨gR, 0, none⟩ = some (.pointer (some ⟨g, 0, none⟩))) (cl : w.cell? ⟨g, 0, none⟩ = some (.slice ad m c))
    (u0 u3 u4 u5 u6 u7 u8 u9 u10 u11 u12 u13 u14 u15 u16 u17 u18 u19 u20 u21 u22 u23 u24 u25 u26 u27 u28 u29 u30 u31 u32 : Value) (Q : Exit → Act → World → Prop)
    (h : ∀ gA gL gb w', w'.heap[gA]? = some (.cells #[.pointer (some ⟨g, 1, none⟩)] 114 (0, 0)) → w'.heap[gL]? = some (.cells #[.slice ad m c] 30 (0, 0)) → w'.heap[gb]? = some (.cells #[.int .u8 (b : Int)] 5 (0, 0)) → Below w.heap.size w w' → w.heap.size ≤ gA → w.heap.size ≤ gL → w.heap.size ≤ gb → Q .normal { tmps := (List.toArray ((u0 :: .int .u8 (b : Int) :: .pointer (some ⟨gR, 0, none⟩) :: u3 :: u4 :: u5 :: u6 :: u7 :: u8 :: u9 :: .pointer (some ⟨g, 0, none⟩) :: .pointer (some ⟨g, 0, none⟩) :: .pointer (some ⟨g, 0, none⟩) :: .slice ad m c :: .pointer (some ⟨g, 0, none⟩) :: .pointer (some ⟨g, 0, none⟩) :: .pointer (some ⟨g, 1, none⟩) :: .int .u8 (b : Int) :: .func (.func 84) #[] #[.pointer (some ⟨gA, 0, none⟩), .pointer (some ⟨gL, 0, none⟩), .pointer (some ⟨gb, 0, none⟩)] :: u19 :: u20 :: u21 :: u22 :: u23 :: u24 :: u25 :: u26 :: u27 :: u28 :: u29 :: u30 :: u31 :: u32 :: []) : List Value)), defers := ds } w') :
    (Code.region 4 #[{ dst := some 10, op := Op.load 50 (Operand.tmp 2), type := 50, pos := "sim.go:80", after := #[], guard := none }, { dst := some 11, op := Op.nilCheck (Operand.tmp 10), type := 0, pos := "sim.go:80", after := #[{ on := 0, ground := Ground.data }], guard := none }, { dst := some 12, op := Op.fieldAddr 111 (Operand.tmp 11) 0, type := 0, pos := "sim.go:80", after := #[{ on := 1, ground := Ground.data }], guard := none }, { dst := some 13, op := Op.load 30 (Operand.tmp 12), type := 30, pos := "sim.go:80", after := #[{ on := 2, ground := Ground.data }], guard := none }, { dst := some 14, op := Op.load 50 (Operand.tmp 2), type := 50, pos := "sim.go:80", after := #[], guard := none }, { dst := some 15, op := Op.nilCheck (Operand.tmp 14), type := 0, pos := "sim.go:80", after := #[{ on := 4, ground := Ground.data }], guard := none }, { dst := some 16, op := Op.fieldAddr 111 (Operand.tmp 15) 1, type := 0, pos := "sim.go:80", after := #[{ on := 5, ground := Ground.data }], guard := none }, { dst := some 17, op := Op.move (Operand.tmp 1), type := 5, pos := "sim.go:80", after := #[], guard := none }, { dst := some 18, op := Op.call { callee := Callee.value (Operand.func 55), args := #[Operand.tmp 13, Operand.tmp 16, Operand.tmp 17], argTypes := #[30, 114, 5] }, type := 106, pos := "sim.go:80", after := #[{ on := 3, ground := Ground.data }, { on := 6, ground := Ground.data }, { on := 7, ground := Ground.data }], guard := none }] true).wpIn Fence.wide n0 Tryz.prog Q { tmps := (List.toArray ((u0 :: .int .u8 (b : Int) :: .pointer (some ⟨gR, 0, none⟩) :: u3 :: u4 :: u5 :: u6 :: u7 :: u8 :: u9 :: u10 :: u11 :: u12 :: u13 :: u14 :: u15 :: u16 :: u17 :: u18 :: u19 :: u20 :: u21 :: u22 :: u23 :: u24 :: u25 :: u26 :: u27 :: u28 :: u29 :: u30 :: u31 :: u32 :: []) : List Value)), defers := ds } w := by
  have hD : Below w.heap.size w w.drew := (Below.refl _ w).drew
  have c1d : w.drew.cell? ⟨gR, 0, none⟩ = some (.pointer (some ⟨g, 0, none⟩)) := c1
  have cld : w.drew.cell? ⟨g, 0, none⟩ = some (.slice ad m c) := cl
  replace h := hide h
  refine Code.wpIn_mono NoPanic.imp ?_
  refine wpIn_region_any (by kernel_rfl) ?_
  change wpAnyIn _ _ _ _ _ _ _ _ _ (World.drew w)
  refine wpAnyIn_take (i := 7) (oi := { dst := some 17, op := Op.move (Operand.tmp 1), type := 5, pos := "sim.go:80", after := #[], guard := none }) (v := ?_) rfl rfl (by kernel_rfl) (by kernel_rfl) (by kernel_rfl) (fun _ _ _ h => h) ⟨Or.inl ⟨by rfl, ?_⟩, fun _ => rfl⟩ ?_
  rotate_left
  · intro w'
    go_simp
    try with_reducible rfl
  try simp only [Act.put, List.setIfInBounds_toArray, List.set_cons_zero, List.set_cons_succ]
  refine wpAnyIn_ready (rs := [0, 4]) (by kernel_rfl) (by simp) ?_
  refine (AllReadyIn.cons (o := { dst := some 10, op := Op.load 50 (Operand.tmp 2), type := 50, pos := "sim.go:80", after := #[], guard := none }) rfl (fun K0 hK0 => ?_) (AllReadyIn.cons (o := { dst := some 14, op := Op.load 50 (Operand.tmp 2), type := 50, pos := "sim.go:80", after := #[], guard := none }) rfl (fun K4 hK4 => ?_) AllReadyIn.nil))
  · refine wpI_ldg 50 wide_fn rfl (by rfl) rfl (ld65 c1d) (hK0 _ _ ?_)
    clear hK0 K0
    try simp only [Act.put, List.setIfInBounds_toArray, List.set_cons_zero, List.set_cons_succ]
    refine wpAnyIn_take (i := 1) (oi := { dst := some 11, op := Op.nilCheck (Operand.tmp 10), type := 0, pos := "sim.go:80", after := #[{ on := 0, ground := Ground.data }], guard := none }) (v := ?_) rfl rfl (by kernel_rfl) (by kernel_rfl) (by kernel_rfl) (fun _ _ _ h => h) ⟨Or.inl ⟨by rfl, ?_⟩, fun _ => rfl⟩ ?_
    rotate_left
    · intro w'
      go_simp
      try with_reducible rfl
    try simp only [Act.put, List.setIfInBounds_toArray, List.set_cons_zero, List.set_cons_succ]
    refine wpAnyIn_take (i := 2) (oi := { dst := some 12, op := Op.fieldAddr 111 (Operand.tmp 11) 0, type := 0, pos := "sim.go:80", after := #[{ on := 1, ground := Ground.data }], guard := none }) (v := ?_) rfl rfl (by kernel_rfl) (by kernel_rfl) (by kernel_rfl) (fun _ _ _ h => h) ⟨Or.inl ⟨by rfl, ?_⟩, fun _ => rfl⟩ ?_
    rotate_left
    · intro w'
      go_simp
      try with_reducible rfl
    try simp only [Act.put, List.setIfInBounds_toArray, List.set_cons_zero, List.set_cons_succ]
    refine wpAnyIn_ready (rs := [3, 4]) (by kernel_rfl) (by simp) ?_
    refine (AllReadyIn.cons (o := { dst := some 13, op := Op.load 30 (Operand.tmp 12), type := 30, pos := "sim.go:80", after := #[{ on := 2, ground := Ground.data }], guard := none }) rfl (fun K3 hK3 => ?_) (AllReadyIn.cons (o := { dst := some 14, op := Op.load 50 (Operand.tmp 2), type := 50, pos := "sim.go:80", after := #[], guard := none }) rfl (fun K4 hK4 => ?_) AllReadyIn.nil))
    · refine wpI_ldg 30 wide_fn rfl (by rfl) rfl (ld29 cld) (hK3 _ _ ?_)
      clear hK3 K3
      try simp only [Act.put, List.setIfInBounds_toArray, List.set_cons_zero, List.set_cons_succ]
      refine wpAnyIn_ready (rs := [4]) (by kernel_rfl) (by simp) ?_
      refine (AllReadyIn.cons (o := { dst := some 14, op := Op.load 50 (Operand.tmp 2), type := 50, pos := "sim.go:80", after := #[], guard := none }) rfl (fun K4 hK4 => ?_) AllReadyIn.nil)
      refine wpI_ldg 50 wide_fn rfl (by rfl) rfl (ld65 c1d) (hK4 _ _ ?_)
      clear hK4 K4
      try simp only [Act.put, List.setIfInBounds_toArray, List.set_cons_zero, List.set_cons_succ]
      refine wpAnyIn_take (i := 5) (oi := { dst := some 15, op := Op.nilCheck (Operand.tmp 14), type := 0, pos := "sim.go:80", after := #[{ on := 4, ground := Ground.data }], guard := none }) (v := ?_) rfl rfl (by kernel_rfl) (by kernel_rfl) (by kernel_rfl) (fun _ _ _ h => h) ⟨Or.inl ⟨by rfl, ?_⟩, fun _ => rfl⟩ ?_
      rotate_left
      · intro w'
        go_simp
        try with_reducible rfl
      try simp only [Act.put, List.setIfInBounds_toArray, List.set_cons_zero, List.set_cons_succ]
      refine wpAnyIn_take (i := 6) (oi := { dst := some 16, op := Op.fieldAddr 111 (Operand.tmp 15) 1, type := 0, pos := "sim.go:80", after := #[{ on := 5, ground := Ground.data }], guard := none }) (v := ?_) rfl rfl (by kernel_rfl) (by kernel_rfl) (by kernel_rfl) (fun _ _ _ h => h) ⟨Or.inl ⟨by rfl, ?_⟩, fun _ => rfl⟩ ?_
      rotate_left
      · intro w'
        go_simp
        try with_reducible rfl
      try simp only [Act.put, List.setIfInBounds_toArray, List.set_cons_zero, List.set_cons_succ]
      refine wpAnyIn_ready (rs := [8]) (by kernel_rfl) (by simp) ?_
      refine (AllReadyIn.cons (o := { dst := some 18, op := Op.call { callee := Callee.value (Operand.func 55), args := #[Operand.tmp 13, Operand.tmp 16, Operand.tmp 17], argTypes := #[30, 114, 5] }, type := 106, pos := "sim.go:80", after := #[{ on := 3, ground := Ground.data }, { on := 6, ground := Ground.data }, { on := 7, ground := Ground.data }], guard := none }) rfl (fun K8 hK8 => ?_) AllReadyIn.nil)
      go_simp
      refine ⟨trivial, fun h => (by cases h), (led_in _ ad m c ⟨g, 1, none⟩ b _).mono ?_⟩
      rintro e w4 ⟨gA, gL, gb, rfl, f1, f2, f3, B4, n1, n2, n3⟩
      replace B4 : Below w.heap.size w.drew w4 := B4
      refine hK8 _ _ ?_
      clear hK8 K8
      try simp only [Act.put, List.setIfInBounds_toArray, List.set_cons_zero, List.set_cons_succ]
      refine wpAnyIn_done (by kernel_rfl) ?_ _
      refine NoPanic.normal ?_
      exact h.out _ _ _ _ f1 f2 f3 (hD.trans B4) n1 n2 n3
    · refine wpI_ldg 50 wide_fn rfl (by rfl) rfl (ld65 c1d) (hK4 _ _ ?_)
      clear hK4 K4
      try simp only [Act.put, List.setIfInBounds_toArray, List.set_cons_zero, List.set_cons_succ]
      refine wpAnyIn_take (i := 5) (oi := { dst := some 15, op := Op.nilCheck (Operand.tmp 14), type := 0, pos := "sim.go:80", after := #[{ on := 4, ground := Ground.data }], guard := none }) (v := ?_) rfl rfl (by kernel_rfl) (by kernel_rfl) (by kernel_rfl) (fun _ _ _ h => h) ⟨Or.inl ⟨by rfl, ?_⟩, fun _ => rfl⟩ ?_
      rotate_left
      · intro w'
        go_simp
        try with_reducible rfl
      try simp only [Act.put, List.setIfInBounds_toArray, List.set_cons_zero, List.set_cons_succ]
      refine wpAnyIn_take (i := 6) (oi := { dst := some 16, op := Op.fieldAddr 111 (Operand.tmp 15) 1, type := 0, pos := "sim.go:80", after := #[{ on := 5, ground := Ground.data }], guard := none }) (v := ?_) rfl rfl (by kernel_rfl) (by kernel_rfl) (by kernel_rfl) (fun _ _ _ h => h) ⟨Or.inl ⟨by rfl, ?_⟩, fun _ => rfl⟩ ?_
      rotate_left
      · intro w'
        go_simp
        try with_reducible rfl
      try simp only [Act.put, List.setIfInBounds_toArray, List.set_cons_zero, List.set_cons_succ]
      refine wpAnyIn_ready (rs := [3]) (by kernel_rfl) (by simp) ?_
      refine (AllReadyIn.cons (o := { dst := some 13, op := Op.load 30 (Operand.tmp 12), type := 30, pos := "sim.go:80", after := #[{ on := 2, ground := Ground.data }], guard := none }) rfl (fun K3 hK3 => ?_) AllReadyIn.nil)
      refine wpI_ldg 30 wide_fn rfl (by rfl) rfl (ld29 cld) (hK3 _ _ ?_)
      clear hK3 K3
      try simp only [Act.put, List.setIfInBounds_toArray, List.set_cons_zero, List.set_cons_succ]
      refine wpAnyIn_ready (rs := [8]) (by kernel_rfl) (by simp) ?_
      refine (AllReadyIn.cons (o := { dst := some 18, op := Op.call { callee := Callee.value (Operand.func 55), args := #[Operand.tmp 13, Operand.tmp 16, Operand.tmp 17], argTypes := #[30, 114, 5] }, type := 106, pos := "sim.go:80", after := #[{ on := 3, ground := Ground.data }, { on := 6, ground := Ground.data }, { on := 7, ground := Ground.data }], guard := none }) rfl (fun K8 hK8 => ?_) AllReadyIn.nil)
      go_simp
      refine ⟨trivial, fun h => (by cases h), (led_in _ ad m c ⟨g, 1, none⟩ b _).mono ?_⟩
      rintro e w4 ⟨gA, gL, gb, rfl, f1, f2, f3, B4, n1, n2, n3⟩
      replace B4 : Below w.heap.size w.drew w4 := B4
      refine hK8 _ _ ?_
      clear hK8 K8
      try simp only [Act.put, List.setIfInBounds_toArray, List.set_cons_zero, List.set_cons_succ]
      refine wpAnyIn_done (by kernel_rfl) ?_ _
      refine NoPanic.normal ?_
      exact h.out _ _ _ _ f1 f2 f3 (hD.trans B4) n1 n2 n3
  · refine wpI_ldg 50 wide_fn rfl (by rfl) rfl (ld65 c1d) (hK4 _ _ ?_)
    clear hK4 K4
    try simp only [Act.put, List.setIfInBounds_toArray, List.set_cons_zero, List.set_cons_succ]
    refine wpAnyIn_take (i := 5) (oi := { dst := some 15, op := Op.nilCheck (Operand.tmp 14), type := 0, pos := "sim.go:80", after := #[{ on := 4, ground := Ground.data }], guard := none }) (v := ?_) rfl rfl (by kernel_rfl) (by kernel_rfl) (by kernel_rfl) (fun _ _ _ h => h) ⟨Or.inl ⟨by rfl, ?_⟩, fun _ => rfl⟩ ?_
    rotate_left
    · intro w'
      go_simp
      try with_reducible rfl
    try simp only [Act.put, List.setIfInBounds_toArray, List.set_cons_zero, List.set_cons_succ]
    refine wpAnyIn_take (i := 6) (oi := { dst := some 16, op := Op.fieldAddr 111 (Operand.tmp 15) 1, type := 0, pos := "sim.go:80", after := #[{ on := 5, ground := Ground.data }], guard := none }) (v := ?_) rfl rfl (by kernel_rfl) (by kernel_rfl) (by kernel_rfl) (fun _ _ _ h => h) ⟨Or.inl ⟨by rfl, ?_⟩, fun _ => rfl⟩ ?_
    rotate_left
    · intro w'
      go_simp
      try with_reducible rfl
    try simp only [Act.put, List.setIfInBounds_toArray, List.set_cons_zero, List.set_cons_succ]
    refine wpAnyIn_ready (rs := [0]) (by kernel_rfl) (by simp) ?_
    refine (AllReadyIn.cons (o := { dst := some 10, op := Op.load 50 (Operand.tmp 2), type := 50, pos := "sim.go:80", after := #[], guard := none }) rfl (fun K0 hK0 => ?_) AllReadyIn.nil)
    refine wpI_ldg 50 wide_fn rfl (by rfl) rfl (ld65 c1d) (hK0 _ _ ?_)
    clear hK0 K0
    try simp only [Act.put, List.setIfInBounds_toArray, List.set_cons_zero, List.set_cons_succ]
    refine wpAnyIn_take (i := 1) (oi := { dst := some 11, op := Op.nilCheck (Operand.tmp 10), type := 0, pos := "sim.go:80", after := #[{ on := 0, ground := Ground.data }], guard := none }) (v := ?_) rfl rfl (by kernel_rfl) (by kernel_rfl) (by kernel_rfl) (fun _ _ _ h => h) ⟨Or.inl ⟨by rfl, ?_⟩, fun _ => rfl⟩ ?_
    rotate_left
    · intro w'
      go_simp
      try with_reducible rfl
    try simp only [Act.put, List.setIfInBounds_toArray, List.set_cons_zero, List.set_cons_succ]
    refine wpAnyIn_take (i := 2) (oi := { dst := some 12, op := Op.fieldAddr 111 (Operand.tmp 11) 0, type := 0, pos := "sim.go:80", after := #[{ on := 1, ground := Ground.data }], guard := none }) (v := ?_) rfl rfl (by kernel_rfl) (by kernel_rfl) (by kernel_rfl) (fun _ _ _ h => h) ⟨Or.inl ⟨by rfl, ?_⟩, fun _ => rfl⟩ ?_
    rotate_left
    · intro w'
      go_simp
      try with_reducible rfl
    try simp only [Act.put, List.setIfInBounds_toArray, List.set_cons_zero, List.set_cons_succ]
    refine wpAnyIn_ready (rs := [3]) (by kernel_rfl) (by simp) ?_
    refine (AllReadyIn.cons (o := { dst := some 13, op := Op.load 30 (Operand.tmp 12), type := 30, pos := "sim.go:80", after := #[{ on := 2, ground := Ground.data }], guard := none }) rfl (fun K3 hK3 => ?_) AllReadyIn.nil)
    refine wpI_ldg 30 wide_fn rfl (by rfl) rfl (ld29 cld) (hK3 _ _ ?_)
    clear hK3 K3
    try simp only [Act.put, List.setIfInBounds_toArray, List.set_cons_zero, List.set_cons_succ]
    refine wpAnyIn_ready (rs := [8]) (by kernel_rfl) (by simp) ?_
    refine (AllReadyIn.cons (o := { dst := some 18, op := Op.call { callee := Callee.value (Operand.func 55), args := #[Operand.tmp 13, Operand.tmp 16, Operand.tmp 17], argTypes := #[30, 114, 5] }, type := 106, pos := "sim.go:80", after := #[{ on := 3, ground := Ground.data }, { on := 6, ground := Ground.data }, { on := 7, ground := Ground.data }], guard := none }) rfl (fun K8 hK8 => ?_) AllReadyIn.nil)
    go_simp
    refine ⟨trivial, fun h => (by cases h), (led_in _ ad m c ⟨g, 1, none⟩ b _).mono ?_⟩
    rintro e w4 ⟨gA, gL, gb, rfl, f1, f2, f3, B4, n1, n2, n3⟩
    replace B4 : Below w.heap.size w.drew w4 := B4
    refine hK8 _ _ ?_
    clear hK8 K8
    try simp only [Act.put, List.setIfInBounds_toArray, List.set_cons_zero, List.set_cons_succ]
    refine wpAnyIn_done (by kernel_rfl) ?_ _
    refine NoPanic.normal ?_
    exact h.out _ _ _ _ f1 f2 f3 (hD.trans B4) n1 n2 n3

section
variable {S : Nat → Prop} {w0 : World} {L : List Ent} {F : Fence} {n : Nat} {w w' : World} {ops : Array Oper} {rest : List Oper} {a : Act} {Q : Exit → Act → World → Prop} {dst : Option Nat} {x y : Operand} {ty : TypeId} {pos : String} {after : Array Edge}
theorem wlS_alloc101 (hF : ∀ f, F.fn f) (H : St S w0 w L) (h : ∀ g w', St S w0 w' ((true, g, 109, pA #[] noW) :: L) → w0.heap.size ≤ g → wpListIn F n Tryz.prog ops Q rest (a.put dst (.pointer (some ⟨g, 0, none⟩))) w') : wpListIn F n Tryz.prog ops Q (⟨dst, .alloc 109, ty, pos, after, none⟩ :: rest) a w := by
  have e : (execOp a.eval ⟨dst, .alloc 109, ty, pos, after, none⟩).run Tryz.prog w = .ok (.value (.pointer (some ⟨w.heap.size, 0, none⟩))) (w.alloc (.cells (pA #[] noW) 109)) := by
    unfold execOp
    kernel_rfl
  exact wlI_val hF (fun c => nofun) e (h _ _ (H.alloc 109 _) H.but.size)
/-- A set is stored into a runner. -/
theorem wlI_st101 (hF : ∀ f, F.fn f) {g : Nat} {v : Value} {W V : List Nat} (hW : OkW W) (hV : OkW V) (hg : w.heap[g]? = some (.cells (pA #[v] W) 111 (0, 0))) (hx : a.eval x = .pointer (some ⟨g, 1, none⟩)) (hy : a.eval y = .agg (wA V)) (h : ∀ w', w'.heap[g]? = some (.cells (pA #[v] V) 111 (0, 0)) → But (fun k => k = g) w w' → wpListIn F n Tryz.prog ops Q rest a w') : wpListIn F n Tryz.prog ops Q (⟨none, .store 109 x y, ty, pos, after, none⟩ :: rest) a w := by
  have hi : (Tryz.prog.info? 109).map (·.size) = some 32 := by kernel_rfl
  have hs : (wA V).size = 32 := by rw [wA_size, hV.len]
  have hth : w.there g 1 (wA V).size := fun j hj => by
    have e : w.cell? ⟨g, 1 + j, none⟩ = some (.int .u64 ((W.getD j 0 : Nat) : Int)) := by
      rw [cell_of_row w g _ _ 111 (0, 0) hg]
      exact pA_at (pre := #[v]) (by rw [hW.len]; omega)
    exact ⟨by rw [e]; rfl, frozen_of_row w g _ _ 111 hg⟩
  have hr := run_storeVar_mid (P := Tryz.prog) w g 1 109 (wA V) hth (by rw [hi, hs]) (wA_all V)
  have H : St (fun k => k = g) w w [(true, g, 111, pA #[v] W)] := ⟨But.refl _ _, fun x hx => by rw [List.mem_singleton.1 hx]; exact hg, fun x hx _ _ => by rw [List.mem_singleton.1 hx], by simp⟩
  have H2 := St.setCellsB (g := g) (t := 111) 0 (wA V).toList 1 w _ _ H rfl
  have e1 : setsB (pA #[v] W) 1 (wA V).toList = pA #[v] V := by
    have := setsB_mid (wA V).toList (wA W).toList [v] [] (by simp [wA_size, hV.len, hW.len])
    simp only [List.append_nil, List.length_cons, List.length_nil, Nat.zero_add] at this
    have e2 : ∀ U : List Nat, ([v] ++ (wA U).toList).toArray = pA #[v] U := fun U => by
      unfold pA
      apply Array.ext'
      simp
    rw [e2, e2] at this
    exact this
  rw [e1] at H2
  refine wlI_skip (w' := w.setCells g 1 (wA V).toList) hF (fun c => nofun) ?_ (h _ (H2.get 0 rfl) H2.but)
  unfold execOp
  simp only [hx, hy, Instr.storeAt, Instr.sureAddr, Sem.run_bind, Sem.run_pure, Result.andThen_ok, hr]
end
/-- What Feed has between two rounds. -/
structure FdI (w0 : World) (gR g5 : Nat) (v : Value) (L : List Ins) (zs : List Nat) (Wd : World) : Prop where
  bR : Wd.heap[gR]? = some (.cells #[v] 50 (0, 0))
  set : ∃ W5, OkW W5 ∧ (∀ m, inW W5 m = true ↔ ∃ z ∈ zs, Eps L z m) ∧ Wd.heap[g5]? = some (.cells (pA #[] W5) 109 (0, 0))
  bel : Below w0.heap.size w0 Wd
theorem FdI.own {w0 : World} {gR g5 B : Nat} {v : Value} {L : List Ins} {zs : List Nat} {W W' : World} {row : Option Nat} (h : FdI w0 gR g5 v L zs W) (hB : w0.heap.size ≤ B) (hg : W.grownBy W' row) (hr : ∀ r, row = some r → B ≤ r ∧ ∃ o : Obj, W.heap[r]? = some o ∧ o.isCells = false) : FdI w0 gR g5 v L zs W' := by
  have ne : ∀ g xs t, W.heap[g]? = some (.cells xs t (0, 0)) → some g ≠ row := fun g xs t h e => by
    obtain ⟨_, o, ho, hc⟩ := hr g e.symm
    rw [h] at ho
    cases ho
    cases hc
  obtain ⟨W5, h1, h2, h3⟩ := h.set
  exact ⟨(hg.block gR (Array.getElem?_eq_some_iff.1 h.bR).1 (ne _ _ _ h.bR)).trans h.bR, ⟨W5, h1, h2, (hg.block g5 (Array.getElem?_eq_some_iff.1 h3).1 (ne _ _ _ h3)).trans h3⟩, h.bel.grown hg h.bel.size (fun k e => by have := (hr k e).1; omega)⟩
theorem nxt_led {L : List Ins} {W : List Nat} (hW : OkW W) {b : Nat} (m : Nat) : (∃ z ∈ ldl L b (mems W), Eps L z m) ↔ nxt L (snW W) b m := by
  constructor
  · rintro ⟨z, hz, he⟩
    obtain ⟨i, hi, hx⟩ := List.mem_filterMap.1 hz
    unfold ldx at hx
    cases hq : L[i]? with
    | none => rw [hq] at hx; cases hx
    | some q =>
      rw [hq] at hx
      simp only at hx
      split at hx
      · rename_i h
        cases hx
        exact ⟨i, q, (mem_mems hW i).1 hi, hq, h.1, h.2, he⟩
      · cases hx
  · rintro ⟨i, q, h1, h2, h3, h4, h5⟩
    exact ⟨q.x.toNat, List.mem_filterMap.2 ⟨i, (mem_mems hW i).2 h1, ldx_yes h2 ⟨h3, h4⟩⟩, h5⟩
theorem ldl_lt {L : List Ins} (hG : GoL L) {b : Nat} {M : List Nat} : ∀ z ∈ ldl L b M, z < L.length := fun z hz => by
  obtain ⟨i, hi, hx⟩ := List.mem_filterMap.1 hz
  unfold ldx at hx
  cases hq : L[i]? with
  | none => rw [hq] at hx; cases hx
  | some q =>
    rw [hq] at hx
    simp only at hx
    split at hx
    · rename_i h
      cases hx
      have := (hG q (List.mem_of_getElem? hq)).1 (.inr (.inr h.1))
      omega
    · cases hx
set_option maxHeartbeats 8000000 in
set_option maxRecDepth 100000 in
theorem feed_in (n : Nat) (hn : 5 ≤ n) (g : Nat) (ad : Option Addr) (c : Nat) (L : List Ins) (W : List Nat) (hW : OkW W) (b : Nat) (hb : b < 256) (w : World) (hR : Rn w g ad L.length c W) (hL : HsI w (fun k => k < w.heap.size ∧ k ≠ g) ad L) (hin : ∀ i, inW W i = true → i < L.length) (hT : Tab w) (h0 : 0 < L.length) (hlen : L.length ≤ 2048) (hG : GoL L) (hok : ∀ q ∈ L, OkS q.s) :
    CallsIn Fence.wide n Tryz.prog 25 #[.pointer (some ⟨g, 0, none⟩), .int .u8 (b : Int)] w fun e w' => ∃ V, e = .returned (.bool (!decide (V = noW))) ∧ OkW V ∧ (∀ m, inW V m = true ↔ nxt L (snW W) b m) ∧ Rn w' g ad L.length c V ∧ But (fun k => k = g) w w' := by
  have H := St.start Nope w
  have lg := hR.lt
  have hpos := hT.pos
  replace hL := hide hL
  replace hR := hide hR
  replace hin := hide hin
  replace hW := hide hW
  replace hT := hide hT
  replace hG := hide hG
  replace hok := hide hok
  refine callsIn_of_wp_marks Tryz.func25 rfl trivial ?_ rfl
  simp only [Tryz.ntmps25, List.size_toArray, List.length_cons, List.length_nil, Nat.reduceAdd, Nat.reduceSub, Array.replicate_succ, Array.replicate_zero, List.push_toArray, List.append_toArray, List.nil_append, List.cons_append]
  gi_wp2_with (first | ((with_reducible refine atI_box 50 ?_); refine wlS_box65 wide_fn H rfl ?_; clear H; intro gR w1 H q1; have c1 := H.cell 0 0 rfl (v := .pointer (some ⟨g, 0, none⟩)) rfl; have hb1 := hide H.below) | ((with_reducible refine atI_load 50 ?_); refine wlI_load 50 wide_fn rfl (ld65 c1) ?_))
  refine ⟨trivial, fun h => (by cases h), (callsIn_wide.2 (isMade_any g ad L.length c h0 w1 (hR.out.kept (hb1.out.block g lg)).l)).mono ?_⟩
  rintro e w3 ⟨rfl, rfl⟩
  clear c1
  gi_wp2_with (first | ((with_reducible refine atI_alloc 109 ?_); refine wlS_alloc101 wide_fn H ?_; clear H; intro g5 w4 H q5; have c1 := H.cell 1 0 rfl (v := .pointer (some ⟨g, 0, none⟩)) rfl; have hb4 := hide H.below))
  have R4 : Rn w4 g ad L.length c W := hR.out.kept (hb4.out.block g lg)
  have hl1 := H.lti 1 rfl
  have hl0 := H.lti 0 rfl
  have hne : Hid (gR ≠ g5) := fun e => by have := H.nd; simp [e] at this
  refine reg32_4 _ [] w4 gR g b L.length c ad c1 R4.l _ _ _ _ _ _ _ _ _ _ _ _ _ _ _ _ _ _ _ _ _ _ _ _ _ _ _ _ _ _ _ _ ?_
  intro gA gL gb w5 f1 f2 f3 B5 n1 n2 n3
  replace H := H.call B5 (Nat.le_refl _)
  have hb5 := H.below
  have hs5 := hb5.size
  have hs45 := B5.size
  have h15 := H.get 1 rfl
  have h05 := H.get 0 rfl
  have R5 : Rn w5 g ad L.length c W := hR.out.kept (hb5.block g lg)
  have hL5 : HsI w5 (fun k => ¬ k = g5) ad L := hL.out.kept (fun k _ hk => hb5.block k hk) (fun k hk h => by omega)
  have hst := led_stops (Pr := fun z => z < L.length) (fun k => k = g5) (n - 1) (by omega) gA gL gb g #[.slice ad L.length c] 111 W hW.out ad c L b hb w5 f1 f2 f3 R5 (hT.out.below hb5) hL5 hok.out hG.out hin.out (by omega) (by omega) (by omega) (fun k hk => by omega) (ldl_lt hG.out)
  have I0 : FdI w gR g5 (.pointer (some ⟨g, 0, none⟩)) L [] w5 := ⟨h15, ⟨noW, OkW.no, fun m => by rw [inW_no]; simp, h05⟩, hb5⟩
  clear H c1 R4
  replace f1 := hide f1
  replace f2 := hide f2
  replace f3 := hide f3
  replace B5 := hide B5
  replace hL5 := hide hL5
  gi_wp2
  refine wpIn_rangeO rfl (by omega) (gf := 84) (lb := #[.pointer (some ⟨gA, 0, none⟩), .pointer (some ⟨gL, 0, none⟩), .pointer (some ⟨gb, 0, none⟩)]) rfl (wide_fn 84) (enters_of Tryz.func84 (by kernel_rfl) rfl)
    hst (fun h k => h.trans k) (fun Wd l o o' hl ho hc _ => ⟨by simp [World.putObj], fun k cs t fr _ e => (World.putObj_heap_other (fun h => by rw [h, ho] at e; cases e; cases hc)).trans e⟩) (Below.refl _ w5) (fun _ => rfl)
    (fun (pr : List { z : Nat // z < L.length }) Wd => FdI w gR g5 (.pointer (some ⟨g, 0, none⟩)) L (pr.map Subtype.val) Wd)
    (fun _ _ _ => False)
    (fun pr Wd Wd' row hs hg hr => hs.own hs5 hg hr)
    (fun _ _ _ _ _ hs _ _ => hs)
    I0
    (fun z a' Wd => ∃ (u0 u3 u4 u7 u8 u9 u10 u11 u12 u13 u14 u15 u16 u17 u18 u19 u20 u21 u22 u23 u24 u25 u26 u27 u28 u29 u30 u31 u32 : Value), a' = { tmps := #[u0, .int .u8 (b : Int), .pointer (some ⟨gR, 0, none⟩), u3, u4, .pointer (some ⟨g5, 0, none⟩), .int .i64 (z.1 : Int), u7, u8, u9, u10, u11, u12, u13, u14, u15, u16, u17, u18, u19, u20, u21, u22, u23, u24, u25, u26, u27, u28, u29, u30, u31, u32], defers := [] })
    (fun x a' _ Wd Wd' row hs hg hr => hs) ?assign ?body ?done ?stop
  case assign =>
    intro l pr x Wd K hi hK
    simp only [encN, List.zip_toArray, List.zip_cons_cons, List.zip_nil_left, List.zip_nil_right, List.foldl_toArray, List.foldl_cons, List.foldl_nil, List.setIfInBounds_toArray, List.set_cons_zero, List.set_cons_succ]
    replace hK := hide hK
    replace hi := hide hi
    gi_wp2
    exact hK.out _ Wd ⟨Nat.le_refl _, fun _ _ _ h _ => h⟩ (Kc.refl _ _) hi.out ⟨_, _, _, _, _, _, _, _, _, _, _, _, _, _, _, _, _, _, _, _, _, _, _, _, _, _, _, _, _, rfl⟩
  case body =>
    rintro l pr ⟨z, hz⟩ a' Wd hl ⟨r, hr⟩ hi ⟨u0, u3, u4, u7, u8, u9, u10, u11, u12, u13, u14, u15, u16, u17, u18, u19, u20, u21, u22, u23, u24, u25, u26, u27, u28, u29, u30, u31, u32, rfl⟩ hlt
    have c1 := cell_row hi.bR 0 (v := .pointer (some ⟨g, 0, none⟩)) rfl
    have Rd : Rn Wd g ad L.length c W := hR.out.kept (hi.bel.block g lg)
    have cl := Rd.l
    obtain ⟨W5, k1, k2, k3⟩ := hi.set
    have hsd := hi.bel.size
    have hLd : HsI Wd (fun k => k < Wd.heap.size ∧ k ≠ g5) ad L := hL.out.kept (fun k _ hk => hi.bel.block k hk) (fun k hk h => by omega)
    have hcl : Clsd L (snW W5) := fun i q hi2 hq => by
      have hi3 : inW W5 i = true := hi2
      obtain ⟨y, hy, he⟩ := (k2 i).1 hi3
      exact ⟨fun h => (k2 _).2 ⟨y, hy, he.goX hq h⟩, fun h => (k2 _).2 ⟨y, hy, he.goY hq h⟩⟩
    have hst2 : Calls Tryz.prog 56 #[.slice ad L.length c, .pointer (some ⟨g5, 0, none⟩), .int .i64 (z : Int)] Wd _ := callsIn_wide.1 (stand_in 5 (by omega) ad c L z g5 #[] 109 W5 Wd hLd hG.out hlen hz k1 hcl k3)
    have lR := (Array.getElem?_eq_some_iff.1 hi.bR).1
    replace hst2 := hide hst2
    replace k2 := hide k2
    replace k3 := hide k3
    have hiH := hide hi
    replace hr := hide hr
    replace Rd := hide Rd
    replace hLd := hide hLd
    replace hcl := hide hcl
    clear hi
    gi_wp2_with (first | ((with_reducible refine atI_load 50 ?_); refine wlI_load 50 (round_fn l) rfl (ld65 c1) ?_) | ((with_reducible refine atI_load 30 ?_); refine wlI_load 30 (round_fn l) rfl (ld29 cl) ?_))
    refine ⟨trivial, fun h => (by cases h), (callsIn_wide.2 hst2.out).mono ?_⟩
    rintro e w9 ⟨⟨v, rfl⟩, hb9, W9, hW9, hin9, hs9⟩
    replace hb9 := hide hb9
    replace hin9 := hide hin9
    replace hs9 := hide hs9
    gi_wp2
    refine ⟨but_keeps hb9.out (fun k h => .inl (by omega)), ⟨hb9.out.size, fun k cs t fr hk e => (hb9.out.block k (Array.getElem?_eq_some_iff.1 e).1 hk).trans e⟩, ⟨(hb9.out.block gR lR hne.out).trans hiH.out.bR, ⟨W9, hW9, fun m => ?_, hs9.out⟩, hiH.out.bel.trans (hb9.out.below hsd (fun k h => by omega))⟩⟩
    rw [hin9.out m, k2.out m]
    simp only [List.map_append, List.map_cons, List.map_nil, List.mem_append, List.mem_singleton]
    constructor
    · rintro (⟨y, hy, he⟩ | he)
      · exact ⟨y, .inl hy, he⟩
      · exact ⟨z, .inr rfl, he⟩
    · rintro ⟨y, hy | hy, he⟩
      · exact .inl ⟨y, hy, he⟩
      · rw [hy] at he; exact .inr he
  case done =>
    rintro D xs Wd hD hS hI hK
    obtain ⟨W5, k1, k2, k3⟩ := hI.set
    have c1 := cell_row hI.bR 0 (v := .pointer (some ⟨g, 0, none⟩)) rfl
    have Rd : Rn Wd g ad L.length c W := hR.out.kept (hI.bel.block g lg)
    have hl101 : (loadVar 109 ⟨g5, 0, none⟩).run Tryz.prog Wd = .ok (.agg (wA W5)) Wd := load101 k1 k3
    have lR := (Array.getElem?_eq_some_iff.1 hI.bR).1
    have hsd := hI.bel.size
    have k4 : ∀ m, inW W5 m = true ↔ nxt L (snW W) b m := fun m => by
      rw [k2 m, hS]
      exact nxt_led hW.out m
    replace k2 := hide k2
    replace k3 := hide k3
    replace k4 := hide k4
    replace hl101 := hide hl101
    replace hS := hide hS
    replace Rd := hide Rd
    have hIH := hide hI
    replace hK := hide hK
    clear hI
    gi_wp2_with (first | ((with_reducible refine atI_load 50 ?_); refine wlI_load 50 wide_fn rfl (ld65 c1) ?_) | ((with_reducible refine atI_load 109 ?_); refine wlI_load 109 wide_fn rfl hl101.out ?_) | ((with_reducible refine atI_store 109 ?_); refine wlI_st101 wide_fn hW.out k1 Rd.out rfl rfl ?_; intro w7 hn7 B7; have c7 := cell_row ((B7.block gR lR (by omega)).trans hIH.out.bR) 0 (v := .pointer (some ⟨g, 0, none⟩)) rfl; clear c1; replace hn7 := hide hn7; replace B7 := hide B7) | ((with_reducible refine atI_load 50 ?_); refine wlI_load 50 wide_fn rfl (ld65 c7) ?_))
    refine ⟨trivial, fun h => (by cases h), (callsIn_wide.2 (dead_any g ad L.length c h0 W5 k1 w7 hn7.out)).mono ?_⟩
    rintro e w8 ⟨rfl, rfl⟩
    generalize hdd : decide (W5 = noW) = dd
    replace hdd := hide hdd
    gi_wp2
    have hlD := (Array.getElem?_eq_some_iff.1 hK.out).1
    have hK7 : w8.heap[D]? = some (.deferred (some [])) := (B7.out.block D hlD (fun e => by omega)).trans hK.out
    have B77 := grownBy_putObj' w8 D (.deferred none)
    refine ⟨by simp, .inl ⟨_, _, rfl, run_takeDeferred hK7, ?_⟩⟩
    refine ⟨_, results_tmp rfl _ _ _, W5, ?_, k1, k4.out, (B77.block g (by have := B7.out.size; omega) (fun e => by cases e; omega)).trans hn7.out, ?_⟩
    · rw [hdd.out]; rfl
    · exact ((but_of_below hIH.out.bel (fun k => k = g) (fun k hk h => by omega)).trans B7.out (fun _ _ h => h)).grown B77 (fun k e hk => by cases e; omega)
  case stop => rintro D cc pr Wd hD hS h; exact h.elim
end Go.Proofs.YtkfdikpnnkbgaaaGreatDoor
