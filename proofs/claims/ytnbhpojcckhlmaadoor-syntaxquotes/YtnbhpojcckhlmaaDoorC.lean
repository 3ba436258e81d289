/-
  Sets of bytes: span.
-/
import Derived.Test.YtnbhpojcckhlmaaDoorB
import Derived.Deep.RegionHeld3
namespace Go.Proofs.YtnbhpojcckhlmaaDoor
open Go.RowKit
set_option linter.unusedVariables false
set_option linter.unusedSimpArgs false

set_option maxHeartbeats 4000000 in
set_option maxRecDepth 100000 in
theorem reg46_5 (w : World) (g b q r : Nat) (x y z : Int) (hq : (b : Int) / 64 = (q : Int)) (hr : (b : Int).tmod 64 = (r : Int)) (hb : b ≤ 255) (hq4 : (q : Int) < 4) (hc : w.cell? ⟨g, q, none⟩ = some (.int .u64 x)) (hf : w.frozen? ⟨g, q, none⟩ = false) (hy : IntKind.u64.wrap (2 ^ min r 64) = y) (hz : bits BinOp.or IntKind.u64 x y = z)
    (u0 u1 u2 u3 u4 u7 u8 u9 u10 u11 u12 u13 u14 u15 u16 u17 u18 u19 u20 u21 u22 u23 u24 : Value) (Q : Exit → Act → World → Prop)
    (h : Q .normal { tmps := (List.toArray ((u0 :: u1 :: u2 :: u3 :: u4 :: .pointer (some ⟨g, 0, none⟩) :: .int .i64 (b : Int) :: u7 :: u8 :: u9 :: u10 :: u11 :: u12 :: u13 :: u14 :: .int .i64 (b : Int) :: .int .i64 (q : Int) :: .pointer (some ⟨g, q, none⟩) :: .int .u64 x :: .int .i64 (b : Int) :: .int .i64 (r : Int) :: .int .u64 y :: .int .u64 z :: .pointer (some ⟨g, q, none⟩) :: u24 :: []) : List Value)), defers := [] } (w.setCell ⟨g, q, none⟩ (.int .u64 z)).drew) :
    (Code.region 5 #[{ dst := some 15, op := Op.move (Operand.tmp 6), type := 3, pos := "set.go:13", after := #[], guard := none }, { dst := some 16, op := Op.binOp BinOp.quo 3 (Operand.tmp 15) (Operand.const (Value.int IntKind.i64 64)) 3, type := 3, pos := "set.go:13", after := #[{ on := 0, ground := Ground.data }], guard := none }, { dst := some 17, op := Op.indexAddr 25 (Operand.tmp 5) (Operand.tmp 16), type := 0, pos := "set.go:13", after := #[{ on := 1, ground := Ground.data }], guard := none }, { dst := some 18, op := Op.load 23 (Operand.tmp 17), type := 23, pos := "set.go:13", after := #[{ on := 2, ground := Ground.data }], guard := none }, { dst := some 19, op := Op.move (Operand.tmp 6), type := 3, pos := "set.go:13", after := #[], guard := none }, { dst := some 20, op := Op.binOp BinOp.rem 3 (Operand.tmp 19) (Operand.const (Value.int IntKind.i64 64)) 3, type := 3, pos := "set.go:13", after := #[{ on := 4, ground := Ground.data }], guard := none }, { dst := some 21, op := Op.binOp BinOp.shl 23 (Operand.const (Value.int IntKind.u64 1)) (Operand.tmp 20) 3, type := 23, pos := "set.go:13", after := #[{ on := 5, ground := Ground.data }], guard := none }, { dst := some 22, op := Op.binOp BinOp.or 23 (Operand.tmp 18) (Operand.tmp 21) 23, type := 23, pos := "set.go:13", after := #[{ on := 3, ground := Ground.data }, { on := 6, ground := Ground.data }], guard := none }, { dst := some 23, op := Op.indexAddr 25 (Operand.tmp 5) (Operand.tmp 16), type := 0, pos := "set.go:13", after := #[{ on := 1, ground := Ground.data }, { on := 0, ground := Ground.phase }, { on := 1, ground := Ground.phase }, { on := 2, ground := Ground.phase }, { on := 3, ground := Ground.phase }, { on := 4, ground := Ground.phase }, { on := 5, ground := Ground.phase }, { on := 6, ground := Ground.phase }, { on := 7, ground := Ground.phase }], guard := none }, { dst := none, op := Op.store 23 (Operand.tmp 23) (Operand.tmp 22), type := 0, pos := "set.go:13", after := #[{ on := 8, ground := Ground.data }, { on := 7, ground := Ground.data }, { on := 0, ground := Ground.phase }, { on := 1, ground := Ground.phase }, { on := 2, ground := Ground.phase }, { on := 3, ground := Ground.phase }, { on := 4, ground := Ground.phase }, { on := 5, ground := Ground.phase }, { on := 6, ground := Ground.phase }, { on := 7, ground := Ground.phase }], guard := none }] true).wp Tryd.prog Q { tmps := (List.toArray ((u0 :: u1 :: u2 :: u3 :: u4 :: .pointer (some ⟨g, 0, none⟩) :: .int .i64 (b : Int) :: u7 :: u8 :: u9 :: u10 :: u11 :: u12 :: u13 :: u14 :: u15 :: u16 :: u17 :: u18 :: u19 :: u20 :: u21 :: u22 :: u23 :: u24 :: []) : List Value)), defers := [] } w := by
  have hw : IntKind.i64.wrap (q : Int) = (q : Int) := by rw [IntKind.wrap_i64]; omega
  have hi : ¬ ((q : Int) < 0) := by omega
  have hi2 : 0 ≤ (q : Int) := by omega
  have hr0 : ¬ ((r : Int) < 0) := by omega
  replace h := hide h
  refine wp_region_noPanic ?_
  refine wp_region_any (by kernel_rfl) ?_
  change wpAny _ _ _ _ _ _ _ (World.drew w)
  refine wpAny_take (i := 0) (oi := { dst := some 15, op := Op.move (Operand.tmp 6), type := 3, pos := "set.go:13", after := #[], guard := none }) (v := ?_) rfl (by kernel_rfl) (by kernel_rfl) (by kernel_rfl) (fun _ _ _ h => h) (Or.inl ⟨by rfl, ?_⟩) ?_
  rotate_left
  · intro w'
    go_simp
    try with_reducible rfl
  try simp only [Act.put, List.setIfInBounds_toArray, List.set_cons_zero, List.set_cons_succ]
  refine wpAny_take (i := 1) (oi := { dst := some 16, op := Op.binOp BinOp.quo 3 (Operand.tmp 15) (Operand.const (Value.int IntKind.i64 64)) 3, type := 3, pos := "set.go:13", after := #[{ on := 0, ground := Ground.data }], guard := none }) (v := ?_) rfl (by kernel_rfl) (by kernel_rfl) (by kernel_rfl) (fun _ _ _ h => h) (Or.inl ⟨by rfl, ?_⟩) ?_
  rotate_left
  · intro w'
    go_simp
    try with_reducible rfl
  try simp only [Act.put, List.setIfInBounds_toArray, List.set_cons_zero, List.set_cons_succ]
  refine wpAny_take (i := 2) (oi := { dst := some 17, op := Op.indexAddr 25 (Operand.tmp 5) (Operand.tmp 16), type := 0, pos := "set.go:13", after := #[{ on := 1, ground := Ground.data }], guard := none }) (v := ?_) rfl (by kernel_rfl) (by kernel_rfl) (by kernel_rfl) (fun _ _ _ h => h) (Or.inl ⟨by rfl, ?_⟩) ?_
  rotate_left
  · intro w'
    go_simp
    try with_reducible rfl
  try simp only [Act.put, List.setIfInBounds_toArray, List.set_cons_zero, List.set_cons_succ]
  refine wpAny_take (i := 4) (oi := { dst := some 19, op := Op.move (Operand.tmp 6), type := 3, pos := "set.go:13", after := #[], guard := none }) (v := ?_) rfl (by kernel_rfl) (by kernel_rfl) (by kernel_rfl) (fun _ _ _ h => h) (Or.inl ⟨by rfl, ?_⟩) ?_
  rotate_left
  · intro w'
    go_simp
    try with_reducible rfl
  try simp only [Act.put, List.setIfInBounds_toArray, List.set_cons_zero, List.set_cons_succ]
  refine wpAny_take (i := 5) (oi := { dst := some 20, op := Op.binOp BinOp.rem 3 (Operand.tmp 19) (Operand.const (Value.int IntKind.i64 64)) 3, type := 3, pos := "set.go:13", after := #[{ on := 4, ground := Ground.data }], guard := none }) (v := ?_) rfl (by kernel_rfl) (by kernel_rfl) (by kernel_rfl) (fun _ _ _ h => h) (Or.inl ⟨by rfl, ?_⟩) ?_
  rotate_left
  · intro w'
    go_simp
    try with_reducible rfl
  try simp only [Act.put, List.setIfInBounds_toArray, List.set_cons_zero, List.set_cons_succ]
  refine wpAny_take (i := 6) (oi := { dst := some 21, op := Op.binOp BinOp.shl 23 (Operand.const (Value.int IntKind.u64 1)) (Operand.tmp 20) 3, type := 23, pos := "set.go:13", after := #[{ on := 5, ground := Ground.data }], guard := none }) (v := ?_) rfl (by kernel_rfl) (by kernel_rfl) (by kernel_rfl) (fun _ _ _ h => h) (Or.inl ⟨by rfl, ?_⟩) ?_
  rotate_left
  · intro w'
    go_simp
    try with_reducible rfl
  try simp only [Act.put, List.setIfInBounds_toArray, List.set_cons_zero, List.set_cons_succ]
  refine wpAny_ready (rs := [3]) (by kernel_rfl) (by simp) ?_
  refine (AllReady.cons (o := { dst := some 18, op := Op.load 23 (Operand.tmp 17), type := 23, pos := "set.go:13", after := #[{ on := 2, ground := Ground.data }], guard := none }) rfl (fun K3 hK3 => ?_) AllReady.nil)
  go_simp
  refine hK3 _ _ ?_
  clear hK3 K3
  try simp only [Act.put, List.setIfInBounds_toArray, List.set_cons_zero, List.set_cons_succ]
  refine wpAny_take (i := 7) (oi := { dst := some 22, op := Op.binOp BinOp.or 23 (Operand.tmp 18) (Operand.tmp 21) 23, type := 23, pos := "set.go:13", after := #[{ on := 3, ground := Ground.data }, { on := 6, ground := Ground.data }], guard := none }) (v := ?_) rfl (by kernel_rfl) (by kernel_rfl) (by kernel_rfl) (fun _ _ _ h => h) (Or.inl ⟨by rfl, ?_⟩) ?_
  rotate_left
  · intro w'
    go_simp
    try with_reducible rfl
  try simp only [Act.put, List.setIfInBounds_toArray, List.set_cons_zero, List.set_cons_succ]
  refine wpAny_take (i := 8) (oi := { dst := some 23, op := Op.indexAddr 25 (Operand.tmp 5) (Operand.tmp 16), type := 0, pos := "set.go:13", after := #[{ on := 1, ground := Ground.data }, { on := 0, ground := Ground.phase }, { on := 1, ground := Ground.phase }, { on := 2, ground := Ground.phase }, { on := 3, ground := Ground.phase }, { on := 4, ground := Ground.phase }, { on := 5, ground := Ground.phase }, { on := 6, ground := Ground.phase }, { on := 7, ground := Ground.phase }], guard := none }) (v := ?_) rfl (by kernel_rfl) (by kernel_rfl) (by kernel_rfl) (fun _ _ _ h => h) (Or.inl ⟨by rfl, ?_⟩) ?_
  rotate_left
  · intro w'
    go_simp
    try with_reducible rfl
  try simp only [Act.put, List.setIfInBounds_toArray, List.set_cons_zero, List.set_cons_succ]
  refine wpAny_ready (rs := [9]) (by kernel_rfl) (by simp) ?_
  refine (AllReady.cons (o := { dst := none, op := Op.store 23 (Operand.tmp 23) (Operand.tmp 22), type := 0, pos := "set.go:13", after := #[{ on := 8, ground := Ground.data }, { on := 7, ground := Ground.data }, { on := 0, ground := Ground.phase }, { on := 1, ground := Ground.phase }, { on := 2, ground := Ground.phase }, { on := 3, ground := Ground.phase }, { on := 4, ground := Ground.phase }, { on := 5, ground := Ground.phase }, { on := 6, ground := Ground.phase }, { on := 7, ground := Ground.phase }], guard := none }) rfl (fun K9 hK9 => ?_) AllReady.nil)
  go_simp
  refine hK9 _ _ ?_
  clear hK9 K9
  try simp only [Act.put, List.setIfInBounds_toArray, List.set_cons_zero, List.set_cons_succ]
  refine wpAny_done (by kernel_rfl) ?_ _
  refine NoPanic.normal ?_
  exact h.out

/-- The number q of a set, and the set with another one there. -/
def S4.get (s : S4) : Nat → Int
  | 0 => s.a | 1 => s.b | 2 => s.c | _ => s.d
def S4.put (s : S4) (q : Nat) (x : Int) : S4 := match q with
  | 0 => { s with a := x } | 1 => { s with b := x } | 2 => { s with c := x } | _ => { s with d := x }
/-- The number of which the bit b modulo 64 is set. -/
def bit (b : Nat) : Int := IntKind.u64.wrap (2 ^ min (b % 64) 64)
def S4.add (s : S4) (b : Nat) : S4 := s.put (b / 64) (bits BinOp.or IntKind.u64 (s.get (b / 64)) (bit b))
/-- n bytes from lo on. -/
def spn (lo : Nat) : Nat → S4
  | 0 => noSet
  | n + 1 => (spn lo n).add (lo + n)
theorem setA_get (s : S4) (q : Nat) (h : q < 4) : (setA s)[q]? = some (.int .u64 (s.get q)) := by
  match q, h with
  | 0, _ => rfl | 1, _ => rfl | 2, _ => rfl | 3, _ => rfl
theorem setA_put (s : S4) (q : Nat) (h : q < 4) (x : Int) : (setA s).setIfInBounds q (.int .u64 x) = setA (s.put q x) := by
  match q, h with
  | 0, _ => rfl | 1, _ => rfl | 2, _ => rfl | 3, _ => rfl
theorem setA_size (s : S4) : (setA s).size = 4 := rfl
/-- A number of a set in a box is turned. -/
theorem St.setCell {S : Nat → Prop} {w0 w : World} {L : List Ent} (H : St S w0 w L) (i : Nat) {g : Nat} {t : TypeId} {xs : Array Value} (h : L[i]? = some (true, g, t, xs)) (j : Nat) (v : Value) : St S w0 (w.setCell ⟨g, j, none⟩ v) (L.set i (true, g, t, xs.setIfInBounds j v)) := by
  rw [setCell_eq_setRow w g j xs t (0, 0) v (H.get i h)]
  exact H.setRow i h _
/-- All bytes from lo to hi. -/
def span (lo hi : Nat) : S4 := spn lo (hi + 1 - lo)
set_option maxHeartbeats 2000000 in
theorem span_any (lo hi : Nat) (hlo : lo ≤ 255) (hhi : hi ≤ 255) (w : World) {x y : Int} (hx : x = (lo : Int)) (hy : y = (hi : Int)) : Calls Tryd.prog 46 #[.int .u8 x, .int .u8 y] w fun e w' => e = .returned (setV (span lo hi)) ∧ Below w.heap.size w w' := by
  subst hx hy
  have H := St.start Nope w
  go_enter Tryd.func46, Tryd.ntmps46
  go_wp2_with (with_reducible refine at_alloc 25 ?_; refine wl_alloc25 H ?_; clear H; intro g w' H h1 h2; clear h1 h2)
  rename_i g1 w1 K hK
  go_loopw [6] (fun b wr => ∃ k : Nat, lo + k ≤ max (hi + 1) lo ∧ b = .int .i64 ((lo + k : Nat) : Int) ∧ Hid (St Nope w wr [(true, g, 25, setA (spn lo k)), (true, g1, 25, setA noSet)])) (fun b _ => hi + 1 - (intOf b).toNat)
  case atStart => exact ⟨0, by omega, by simp, H⟩
  case round =>
    obtain ⟨k, hk, rfl, H2⟩ := hrel
    clear H
    obtain ⟨b, hb⟩ : ∃ b, lo + k = b := ⟨_, rfl⟩
    rw [hb]
    by_cases hlt : b ≤ hi
    · have i1 : (b : Int) ≤ (hi : Int) := by omega
      have hq : b / 64 < 4 := by omega
      have hc := H2.out.cell 0 (b / 64) rfl (setA_get (spn lo k) _ hq)
      have hf := H2.out.fz 0 (b / 64) rfl
      have H3 := H2.out.setCell 0 rfl (b / 64) (.int .u64 (bits BinOp.or IntKind.u64 ((spn lo k).get (b / 64)) (bit b)))
      rw [setA_put _ _ hq] at H3
      replace H3 := hide H3
      replace hk := hide hk
      replace hb := hide hb
      replace hc := hide hc
      replace hf := hide hf
      go_wp2_with fail
      refine reg46_5 wr g b (b / 64) (b % 64) _ (bit b) _ (by omega) (by rw [Int.tmod_eq_emod_of_nonneg (by omega)]; omega) (by omega) (by omega) hc.out hf.out rfl rfl _ _ _ _ _ _ _ _ _ _ _ _ _ _ _ _ _ _ _ _ _ _ _ _ ?_
      go_wp2_with fail
      go_roundw
      case rel => exact ⟨k + 1, by have := hb.out; omega, by have := hb.out; go_num, (by
        have h4 := H3.out.drew
        have e : (spn lo (k + 1)) = (spn lo k).put (b / 64) (bits BinOp.or IntKind.u64 ((spn lo k).get (b / 64)) (bit b)) := by show (spn lo k).add (lo + k) = _; rw [hb.out]; rfl
        rw [e]; exact h4 : St Nope w _ _)⟩
      case measure => simp [intOf]; omega
    · have i1 : ¬ ((b : Int) ≤ (hi : Int)) := by omega
      have e : span lo hi = spn lo k := by unfold span; congr 1; omega
      replace e := hide e
      have H := H2.out
      replace hk := hide hk
      replace hb := hide hb
      go_wp2_with (first | (with_reducible refine at_load 25 ?_; refine wl_load25 0 H rfl rfl ?_) | (with_reducible refine at_store 25 ?_; refine wl_store25 1 H rfl rfl rfl ?_; clear H; intro w' H))
      refine bodyPost_ret (results_cell0 rfl _ _ g1 _ rfl (load25 (H.get 1 rfl))) rfl ?_
      exact ⟨by rw [e.out], H.below⟩
end Go.Proofs.YtnbhpojcckhlmaaDoor
