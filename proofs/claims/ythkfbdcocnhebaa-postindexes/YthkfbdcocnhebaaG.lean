/-
  together: the region that puts the halves together.
-/
import Derived.Test.YthkfbdcocnhebaaF
import Derived.Deep.RegionHeld3
import Derived.Orders
namespace Go.Proofs.Ythkfbdcocnhebaa
open Go.RowKit Go.Shelf
set_option linter.unusedVariables false
set_option linter.unusedSimpArgs false

set_option maxHeartbeats 4000000 in
set_option maxRecDepth 100000 in
theorem reg44_7 (w : World) (b off n c q : Nat) (k : Int) (hh : q < n) (hc : n ≤ c)
    (u2 u3 u4 u6 u7 u8 u9 u10 u11 u12 u13 u14 u15 u16 u17 u18 u19 u20 u21 u22 u23 u24 u25 u26 u27 u28 u29 u30 : Value) (Q : Exit → Act → World → Prop)
    (h : Calls Try.prog 44 #[.slice (some ⟨b, off, none⟩) q c, .int .i64 k] w.drew fun e w4 => ∃ X1, e = .returned X1 ∧ Calls Try.prog 44 #[.slice (some ⟨b, off + q, none⟩) (n - q) (c - q), .int .i64 k] w4 fun e w5 => ∃ X2, e = .returned X2 ∧ Calls Try.prog 48 #[X1, X2, .int .i64 k] w5 fun e w6 => ∃ X3, e = .returned X3 ∧ Q .normal { tmps := (List.toArray ((.slice (some ⟨b, off, none⟩) n c :: .int .i64 k :: u2 :: u3 :: X3 :: .int .i64 (q : Int) :: u6 :: u7 :: u8 :: u9 :: u10 :: u11 :: u12 :: u13 :: u14 :: u15 :: u16 :: u17 :: u18 :: .slice (some ⟨b, off, none⟩) n c :: .int .i64 (q : Int) :: .slice (some ⟨b, off, none⟩) q c :: .int .i64 k :: X1 :: .slice (some ⟨b, off, none⟩) n c :: .int .i64 (q : Int) :: .slice (some ⟨b, off + q, none⟩) (n - q) (c - q) :: .int .i64 k :: X2 :: .int .i64 k :: X3 :: []) : List Value)), defers := [] } w6) :
    (Code.region 7 #[{ dst := some 19, op := Op.move (Operand.tmp 0), type := 22, pos := "merge.go:27", after := #[], guard := none }, { dst := some 20, op := Op.move (Operand.tmp 5), type := 3, pos := "merge.go:27", after := #[], guard := none }, { dst := some 21, op := Op.slice 22 (Operand.tmp 19) none (some (Operand.tmp 20)) none, type := 22, pos := "merge.go:27", after := #[{ on := 0, ground := Ground.data }, { on := 1, ground := Ground.data }], guard := none }, { dst := some 22, op := Op.move (Operand.tmp 1), type := 72, pos := "merge.go:27", after := #[], guard := none }, { dst := some 23, op := Op.call { callee := Callee.value (Operand.func 44), args := #[Operand.tmp 21, Operand.tmp 22], argTypes := #[22, 72] }, type := 23, pos := "merge.go:27", after := #[{ on := 2, ground := Ground.data }, { on := 3, ground := Ground.data }], guard := none }, { dst := some 24, op := Op.move (Operand.tmp 0), type := 22, pos := "merge.go:27", after := #[], guard := none }, { dst := some 25, op := Op.move (Operand.tmp 5), type := 3, pos := "merge.go:27", after := #[], guard := none }, { dst := some 26, op := Op.slice 22 (Operand.tmp 24) (some (Operand.tmp 25)) none none, type := 22, pos := "merge.go:27", after := #[{ on := 5, ground := Ground.data }, { on := 6, ground := Ground.data }], guard := none }, { dst := some 27, op := Op.move (Operand.tmp 1), type := 72, pos := "merge.go:27", after := #[], guard := none }, { dst := some 28, op := Op.call { callee := Callee.value (Operand.func 44), args := #[Operand.tmp 26, Operand.tmp 27], argTypes := #[22, 72] }, type := 23, pos := "merge.go:27", after := #[{ on := 7, ground := Ground.data }, { on := 8, ground := Ground.data }, { on := 4, ground := Ground.chain }], guard := none }, { dst := some 29, op := Op.move (Operand.tmp 1), type := 72, pos := "merge.go:27", after := #[], guard := none }, { dst := some 30, op := Op.call { callee := Callee.value (Operand.func 48), args := #[Operand.tmp 23, Operand.tmp 28, Operand.tmp 29], argTypes := #[23, 23, 72] }, type := 23, pos := "merge.go:27", after := #[{ on := 4, ground := Ground.data }, { on := 9, ground := Ground.data }, { on := 10, ground := Ground.data }, { on := 9, ground := Ground.chain }], guard := none }, { dst := some 4, op := Op.assign (Operand.tmp 30), type := 23, pos := "merge.go:27", after := #[{ on := 11, ground := Ground.data }, { on := 11, ground := Ground.chain }, { on := 0, ground := Ground.phase }, { on := 1, ground := Ground.phase }, { on := 2, ground := Ground.phase }, { on := 3, ground := Ground.phase }, { on := 4, ground := Ground.phase }, { on := 5, ground := Ground.phase }, { on := 6, ground := Ground.phase }, { on := 7, ground := Ground.phase }, { on := 8, ground := Ground.phase }, { on := 9, ground := Ground.phase }, { on := 10, ground := Ground.phase }, { on := 11, ground := Ground.phase }], guard := none }] true).wp Try.prog Q { tmps := (List.toArray ((.slice (some ⟨b, off, none⟩) n c :: .int .i64 k :: u2 :: u3 :: u4 :: .int .i64 (q : Int) :: u6 :: u7 :: u8 :: u9 :: u10 :: u11 :: u12 :: u13 :: u14 :: u15 :: u16 :: u17 :: u18 :: u19 :: u20 :: u21 :: u22 :: u23 :: u24 :: u25 :: u26 :: u27 :: u28 :: u29 :: u30 :: []) : List Value)), defers := [] } w := by
  have i1 : (0 : Int) ≤ (q : Int) := by omega
  have i2 : (q : Int) ≤ (c : Int) := by omega
  have i3 : (q : Int) ≤ (n : Int) := by omega
  have i4 : ¬ c = q := by omega
  clear hh hc
  replace h := hide h
  refine wp_region_noPanic ?_
  refine wp_region_any (by kernel_rfl) ?_
  change wpAny _ _ _ _ _ _ _ (World.drew w)
  refine wpAny_take (i := 0) (oi := { dst := some 19, op := Op.move (Operand.tmp 0), type := 22, pos := "merge.go:27", after := #[], guard := none }) (v := ?_) rfl (by kernel_rfl) (by kernel_rfl) (by kernel_rfl) (fun _ _ _ h => h) (Or.inl ⟨by rfl, ?_⟩) ?_
  rotate_left
  · intro w'
    go_simp
    try with_reducible rfl
  try simp only [Act.put, List.setIfInBounds_toArray, List.set_cons_zero, List.set_cons_succ]
  refine wpAny_take (i := 1) (oi := { dst := some 20, op := Op.move (Operand.tmp 5), type := 3, pos := "merge.go:27", after := #[], guard := none }) (v := ?_) rfl (by kernel_rfl) (by kernel_rfl) (by kernel_rfl) (fun _ _ _ h => h) (Or.inl ⟨by rfl, ?_⟩) ?_
  rotate_left
  · intro w'
    go_simp
    try with_reducible rfl
  try simp only [Act.put, List.setIfInBounds_toArray, List.set_cons_zero, List.set_cons_succ]
  refine wpAny_take (i := 2) (oi := { dst := some 21, op := Op.slice 22 (Operand.tmp 19) none (some (Operand.tmp 20)) none, type := 22, pos := "merge.go:27", after := #[{ on := 0, ground := Ground.data }, { on := 1, ground := Ground.data }], guard := none }) (v := ?_) rfl (by kernel_rfl) (by kernel_rfl) (by kernel_rfl) (fun _ _ _ h => h) (Or.inl ⟨by rfl, ?_⟩) ?_
  rotate_left
  · intro w'
    go_simp
    try with_reducible rfl
  try simp only [Act.put, List.setIfInBounds_toArray, List.set_cons_zero, List.set_cons_succ]
  refine wpAny_take (i := 3) (oi := { dst := some 22, op := Op.move (Operand.tmp 1), type := 72, pos := "merge.go:27", after := #[], guard := none }) (v := ?_) rfl (by kernel_rfl) (by kernel_rfl) (by kernel_rfl) (fun _ _ _ h => h) (Or.inl ⟨by rfl, ?_⟩) ?_
  rotate_left
  · intro w'
    go_simp
    try with_reducible rfl
  try simp only [Act.put, List.setIfInBounds_toArray, List.set_cons_zero, List.set_cons_succ]
  refine wpAny_take (i := 5) (oi := { dst := some 24, op := Op.move (Operand.tmp 0), type := 22, pos := "merge.go:27", after := #[], guard := none }) (v := ?_) rfl (by kernel_rfl) (by kernel_rfl) (by kernel_rfl) (fun _ _ _ h => h) (Or.inl ⟨by rfl, ?_⟩) ?_
  rotate_left
  · intro w'
    go_simp
    try with_reducible rfl
  try simp only [Act.put, List.setIfInBounds_toArray, List.set_cons_zero, List.set_cons_succ]
  refine wpAny_take (i := 6) (oi := { dst := some 25, op := Op.move (Operand.tmp 5), type := 3, pos := "merge.go:27", after := #[], guard := none }) (v := ?_) rfl (by kernel_rfl) (by kernel_rfl) (by kernel_rfl) (fun _ _ _ h => h) (Or.inl ⟨by rfl, ?_⟩) ?_
  rotate_left
  · intro w'
    go_simp
    try with_reducible rfl
  try simp only [Act.put, List.setIfInBounds_toArray, List.set_cons_zero, List.set_cons_succ]
  refine wpAny_take (i := 7) (oi := { dst := some 26, op := Op.slice 22 (Operand.tmp 24) (some (Operand.tmp 25)) none none, type := 22, pos := "merge.go:27", after := #[{ on := 5, ground := Ground.data }, { on := 6, ground := Ground.data }], guard := none }) (v := ?_) rfl (by kernel_rfl) (by kernel_rfl) (by kernel_rfl) (fun _ _ _ h => h) (Or.inl ⟨by rfl, ?_⟩) ?_
  rotate_left
  · intro w'
    go_simp
    try with_reducible rfl
  try simp only [Act.put, List.setIfInBounds_toArray, List.set_cons_zero, List.set_cons_succ]
  refine wpAny_take (i := 8) (oi := { dst := some 27, op := Op.move (Operand.tmp 1), type := 72, pos := "merge.go:27", after := #[], guard := none }) (v := ?_) rfl (by kernel_rfl) (by kernel_rfl) (by kernel_rfl) (fun _ _ _ h => h) (Or.inl ⟨by rfl, ?_⟩) ?_
  rotate_left
  · intro w'
    go_simp
    try with_reducible rfl
  try simp only [Act.put, List.setIfInBounds_toArray, List.set_cons_zero, List.set_cons_succ]
  refine wpAny_take (i := 10) (oi := { dst := some 29, op := Op.move (Operand.tmp 1), type := 72, pos := "merge.go:27", after := #[], guard := none }) (v := ?_) rfl (by kernel_rfl) (by kernel_rfl) (by kernel_rfl) (fun _ _ _ h => h) (Or.inl ⟨by rfl, ?_⟩) ?_
  rotate_left
  · intro w'
    go_simp
    try with_reducible rfl
  try simp only [Act.put, List.setIfInBounds_toArray, List.set_cons_zero, List.set_cons_succ]
  refine wpAny_ready (rs := [4]) (by kernel_rfl) (by simp) ?_
  refine (AllReady.cons (o := { dst := some 23, op := Op.call { callee := Callee.value (Operand.func 44), args := #[Operand.tmp 21, Operand.tmp 22], argTypes := #[22, 72] }, type := 23, pos := "merge.go:27", after := #[{ on := 2, ground := Ground.data }, { on := 3, ground := Ground.data }], guard := none }) rfl (fun K4 hK4 => ?_) AllReady.nil)
  go_simp
  refine h.out.mono ?_
  rintro e w4 ⟨X1, rfl, h⟩
  replace h := hide h
  refine hK4 _ _ ?_
  clear hK4 K4
  try simp only [Act.put, List.setIfInBounds_toArray, List.set_cons_zero, List.set_cons_succ]
  refine wpAny_ready (rs := [9]) (by kernel_rfl) (by simp) ?_
  refine (AllReady.cons (o := { dst := some 28, op := Op.call { callee := Callee.value (Operand.func 44), args := #[Operand.tmp 26, Operand.tmp 27], argTypes := #[22, 72] }, type := 23, pos := "merge.go:27", after := #[{ on := 7, ground := Ground.data }, { on := 8, ground := Ground.data }, { on := 4, ground := Ground.chain }], guard := none }) rfl (fun K9 hK9 => ?_) AllReady.nil)
  go_simp
  refine h.out.mono ?_
  rintro e w5 ⟨X2, rfl, h⟩
  replace h := hide h
  refine hK9 _ _ ?_
  clear hK9 K9
  try simp only [Act.put, List.setIfInBounds_toArray, List.set_cons_zero, List.set_cons_succ]
  refine wpAny_ready (rs := [11]) (by kernel_rfl) (by simp) ?_
  refine (AllReady.cons (o := { dst := some 30, op := Op.call { callee := Callee.value (Operand.func 48), args := #[Operand.tmp 23, Operand.tmp 28, Operand.tmp 29], argTypes := #[23, 23, 72] }, type := 23, pos := "merge.go:27", after := #[{ on := 4, ground := Ground.data }, { on := 9, ground := Ground.data }, { on := 10, ground := Ground.data }, { on := 9, ground := Ground.chain }], guard := none }) rfl (fun K11 hK11 => ?_) AllReady.nil)
  go_simp
  refine h.out.mono ?_
  rintro e w6 ⟨X3, rfl, h⟩
  replace h := hide h
  refine hK11 _ _ ?_
  clear hK11 K11
  try simp only [Act.put, List.setIfInBounds_toArray, List.set_cons_zero, List.set_cons_succ]
  refine wpAny_take (i := 12) (oi := { dst := some 4, op := Op.assign (Operand.tmp 30), type := 23, pos := "merge.go:27", after := #[{ on := 11, ground := Ground.data }, { on := 11, ground := Ground.chain }, { on := 0, ground := Ground.phase }, { on := 1, ground := Ground.phase }, { on := 2, ground := Ground.phase }, { on := 3, ground := Ground.phase }, { on := 4, ground := Ground.phase }, { on := 5, ground := Ground.phase }, { on := 6, ground := Ground.phase }, { on := 7, ground := Ground.phase }, { on := 8, ground := Ground.phase }, { on := 9, ground := Ground.phase }, { on := 10, ground := Ground.phase }, { on := 11, ground := Ground.phase }], guard := none }) (v := ?_) rfl (by kernel_rfl) (by kernel_rfl) (by kernel_rfl) (fun _ _ _ h => h) (Or.inl ⟨by rfl, ?_⟩) ?_
  rotate_left
  · intro w'
    go_simp
    try with_reducible rfl
  try simp only [Act.put, List.setIfInBounds_toArray, List.set_cons_zero, List.set_cons_succ]
  refine wpAny_done (by kernel_rfl) ?_ _
  refine NoPanic.normal ?_
  exact h.out
/-- How together ends. -/
def TogP (k : Int) (ls : List (List Int)) (w : World) (e : Ending) (w' : World) : Prop := ∃ r, Up r ∧ (∀ x, x ∈ r ↔ Tog k ls x) ∧ r.length ≤ tot ls ∧ RetU w r e w'
set_option maxHeartbeats 2000000 in
set_option maxRecDepth 100000 in
theorem together_any (k : Int) (hk : k = 4 ∨ k = 7) : ∀ N n, n ≤ N → ∀ (w : World) (a : Option Addr) (c : Nat) (ls : List (List Int)), HasLL w a n c ls → UpL ls → tot ls ≤ 1000000000 → n ≤ 1000000 → Calls Try.prog 44 #[.slice a n c, .int .i64 k] w (TogP k ls w) := by
  intro N
  induction N with
  | zero =>
    intro n hn w a c ls H U T hb
    obtain rfl : n = 0 := by omega
    obtain rfl : ls = [] := List.eq_nil_of_length_eq_zero H.hlen
    clear H U
    go_enter Try.func44, Try.ntmps44
    go_wp2_with fail
    go_ret
    exact ⟨[], up_nil, fun x => by simp [tog_nil], by simp, none, 0, 0, rfl, hasU_nil w, Below.refl _ _, fun k hk => by cases hk⟩
  | succ N ih =>
    intro n hn w a c ls H U T hb
    have hl := H.hlen
    have hc := H.le
    have hcm := H.capb
    unfold maxLen at hcm
    by_cases h0 : n = 0
    · subst h0
      exact ih 0 (by omega) w a c ls H U T hb
    by_cases h1 : n = 1
    · subst h1
      obtain ⟨b, off, x, m, q, rfl, hb1, c1, HU⟩ := H.cells 0 (by omega)
      obtain ⟨l, rfl⟩ : ∃ l, ls = [l] := by
        cases ls with
        | nil => simp at hl
        | cons l t => cases t with
          | nil => exact ⟨l, rfl⟩
          | cons _ _ => simp at hl
      have c1' : w.cell? ⟨b, off, none⟩ = some (.slice x m q) := by simpa using c1
      have HU' : HasU w x m q l := by simpa using HU
      have hT : tot [l] = m := by simp [tot, HU'.hlen]
      have CL := hide (clone_any w x m q l HU' (by omega))
      have hU := hide (U l (by simp))
      replace hT := hide hT
      clear H U c1 HU HU' hl
      go_enter Try.func44, Try.ntmps44
      go_wp2_with fail
      refine CL.out.mono ?_
      rintro e w2 ⟨a', n', c', rfl, R1, R2, R3⟩
      replace R1 := hide R1
      replace R2 := hide R2
      replace R3 := hide R3
      go_wp2_with fail
      go_ret
      exact ⟨l, hU.out, fun x => tog_one l x, by have := R1.out.hlen; simp [tot], a', n', c', rfl, R1.out, R2.out, R3.out⟩
    · obtain ⟨b, off, x, m, q0, rfl, hb1, _, _⟩ := H.cells 0 (by omega)
      obtain ⟨q, hq⟩ : ∃ q, q = n / 2 := ⟨_, rfl⟩
      have q1 : 0 < q := by omega
      have q2 : q < n := by omega
      have e1 : (n : Int).tdiv 2 = (q : Int) := by
        rw [Int.tdiv_eq_ediv_of_nonneg (by omega)]
        omega
      have e2 : (n : Int) / 2 = (q : Int) := by omega
      have i0 : ((n : Int) == 0) = false := by simp; omega
      have i1 : ((n : Int) == 1) = false := by simp; omega
      have i2 : (0 : Int) ≤ (q : Int) := by omega
      have i3 : (q : Int) ≤ 1000000 := by omega
      have hsp : ls.take q ++ ls.drop q = ls := List.take_append_drop q ls
      have hto : tot (ls.take q) + tot (ls.drop q) = tot ls := by rw [← tot_append, hsp]
      have C1 := fun w' (hB : Below w.heap.size w w') => ih q (by omega) w' _ _ _ ((H.front q (by omega)).kept hB (Nat.le_refl _)) (fun l hl => U l (List.mem_of_mem_take hl)) (by omega) (by omega)
      have C2 := fun w' (hB : Below w.heap.size w w') => ih (n - q) (by omega) w' _ _ _ ((H.back q (by omega)).kept hB (Nat.le_refl _)) (fun l hl => U l (List.mem_of_mem_drop hl)) (by omega) (by omega)
      have n1 : ls.take q ≠ [] := fun e => by have := congrArg List.length e; simp at this; rcases this with h | h; omega; rw [h] at hl; simp at hl; omega
      have n2 : ls.drop q ≠ [] := fun e => by have := congrArg List.length e; simp at this; omega
      replace C1 := hide C1
      replace C2 := hide C2
      replace hto := hide hto
      replace hsp := hide hsp
      clear ih H U hq
      go_enter Try.func44, Try.ntmps44
      go_wp2_with fail
      refine reg44_7 w b off n c q k q2 hc _ _ _ _ _ _ _ _ _ _ _ _ _ _ _ _ _ _ _ _ _ _ _ _ _ _ _ _ _ ?_
      have Bd := below_drew (Below.refl w.heap.size w)
      refine (C1.out _ Bd).mono ?_
      rintro e w4 ⟨r1, u1, m1, l1, a1, p1, c1, rfl, R1, B1, S1⟩
      have B4 : Below w.heap.size w w4 := Bd.trans (B1.mono (Nat.le_refl _))
      refine ⟨_, rfl, (C2.out _ B4).mono ?_⟩
      rintro e w5 ⟨r2, u2, m2, l2, a2, p2, c2, rfl, R2, B2, S2⟩
      have B5 : Below w.heap.size w w5 := B4.trans (B2.mono B4.size)
      have h1 := R1.hlen
      have h2 := R2.hlen
      have h3 := hto.out
      refine ⟨_, rfl, (kept_any k (by rcases hk with h | h; exact .inr (.inl h); exact .inr (.inr h)) w5 _ _ _ _ _ _ r1 r2 (R1.kept B2 (Nat.le_refl _)) R2 (by omega) (by omega)).mono ?_⟩
      rintro e w6 ⟨a3, n3, c3, rfl, R3, B3, S3⟩
      refine ⟨_, rfl, ?_⟩
      have fin : TogP k ls w (.returned (.slice a3 n3 c3)) w6 := by
        refine ⟨kp k r1 r2, kp_up k u1 u2, fun y => ?_, by have := kp_len k r1 r2; omega, a3, n3, c3, rfl, R3, B5.trans (B3.mono B5.size), fun z hz => by have := S3 z hz; have := B5.size; omega⟩
        rw [tog_join hk n1 n2 u1 u2 m1 m2 y, hsp.out]
      replace fin := hide fin
      replace R3 := hide R3
      clear R1 R2 B1 B2 B3 B4 B5 m1 m2 l1 l2 u1 u2 S1 S2 S3 h1 h2 h3 Bd
      go_wp2_with fail
      go_ret
      exact fin.out
end Go.Proofs.Ythkfbdcocnhebaa
