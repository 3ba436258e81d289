/-
  Writers and readers in memory ('Oct'); what a call may turn ('But'); the walks of the small functions of bits.
-/
import Derived.Test.YtmddkinecplooaaDoorC
import Derived.Test.YtmddkinecplooaaDoorNum
import Derived.BigQuiet
import Derived.Laws.OwnMore
namespace Go.Proofs.YtmddkinecplooaaDoor
open Go.RowKit
set_option linter.unusedVariables false

/-- Nothing has turned but blocks in S, and new ones. -/
structure But (S : Nat → Prop) (w w' : World) : Prop where
  os : w'.os = w.os
  tape : w'.tape = w.tape
  output : w'.output = w.output
  size : w.heap.size ≤ w'.heap.size
  block : ∀ k, k < w.heap.size → ¬ S k → w'.heap[k]? = w.heap[k]?

theorem But.refl (S : Nat → Prop) (w : World) : But S w w := ⟨rfl, rfl, rfl, Nat.le_refl _, fun _ _ _ => rfl⟩
theorem But.trans {S T : Nat → Prop} {a b c : World} (h : But S a b) (k : But T b c) (hT : ∀ i, i < a.heap.size → T i → S i) : But S a c :=
  ⟨k.os.trans h.os, k.tape.trans h.tape, k.output.trans h.output, Nat.le_trans h.size k.size, fun i hi hn => (k.block i (Nat.lt_of_lt_of_le hi h.size) (fun t => hn (hT i hi t))).trans (h.block i hi hn)⟩
theorem But.mono {S T : Nat → Prop} {w w' : World} (h : But S w w') (hT : ∀ k, S k → T k) : But T w w' := ⟨h.os, h.tape, h.output, h.size, fun k hk hn => h.block k hk (fun s => hn (hT k s))⟩
theorem But.drewN {S : Nat → Prop} {a w : World} (h : But S a w) (n : Nat) : But S a (w.drewN n) := ⟨h.os, h.tape, h.output, h.size, h.block⟩
theorem But.drew {S : Nat → Prop} {a w : World} (h : But S a w) : But S a w.drew := ⟨h.os, h.tape, h.output, h.size, h.block⟩
theorem But.alloc {S : Nat → Prop} {a w : World} (h : But S a w) (o : Obj) : But S a (w.alloc o) :=
  h.trans (T := fun _ => False) ⟨rfl, rfl, rfl, by simp, fun k hk _ => Below.heap_alloc w o k hk⟩ (fun _ _ h => h.elim)
theorem But.setCell {S : Nat → Prop} {a w : World} (h : But S a w) {p : Addr} (hp : p.block < a.heap.size → S p.block) (u : Value) : But S a (w.setCell p u) :=
  h.trans (T := fun k => k = p.block) ⟨rfl, rfl, rfl, by simp [World.setCell], fun k hk hn => Below.heap_setCell w p u k hn⟩ (fun i hi e => by subst e; exact hp hi)
theorem But.grown {S : Nat → Prop} {a w w' : World} {row : Option Nat} (h : But S a w) (hg : w.grownBy w' row) (hr : ∀ k, row = some k → k < a.heap.size → S k) : But S a w' :=
  h.trans (T := fun k => row = some k) ⟨hg.os, hg.tape, hg.output, hg.size, fun k hk hn => hg.block k hk (fun e => hn e.symm)⟩ (fun i hi e => hr i e hi)
theorem But.below {S : Nat → Prop} {B : Nat} {w w' : World} (h : But S w w') (hB : B ≤ w.heap.size) (hS : ∀ k, S k → B ≤ k) : Below B w w' :=
  ⟨h.os, h.tape, h.output, h.size, fun k hk => h.block k (by omega) (fun s => by have := hS k s; omega)⟩
theorem but_of_below {B : Nat} {w w' : World} (h : Below B w w') (S : Nat → Prop) (hS : ∀ k, k < w.heap.size → B ≤ k → S k) : But S w w' :=
  ⟨h.os, h.tape, h.output, h.size, fun k hk hn => h.block k (by rcases Nat.lt_or_ge k B with h | h; exact h; exact (hn (hS k hk h)).elim)⟩

theorem owns_of_block {w w' : World} {base n : Nat} {e : TypeId} {v : Value} {xs : List Value} (h : w.ownsRow base e 1 v n xs) (hb : ∀ k, v.ownBlock = some k → w'.heap[k]? = w.heap[k]?) : w'.ownsRow base e 1 v n xs := by
  refine ⟨h.1, ?_⟩
  rcases h.2 with h1 | ⟨g, cap, cur, rfl, h2, h3, h4⟩
  · exact .inl h1
  · exact .inr ⟨g, cap, cur, rfl, h2, (hb g rfl).trans h3, h4⟩
theorem owns_mono {w : World} {base base' n : Nat} {e : TypeId} {v : Value} {xs : List Value} (h : w.ownsRow base e 1 v n xs) (hb : base' ≤ base) : w.ownsRow base' e 1 v n xs := by
  refine ⟨h.1, ?_⟩
  rcases h.2 with h1 | ⟨g, cap, cur, rfl, h2, h3⟩
  · exact .inl h1
  · exact .inr ⟨g, cap, cur, rfl, by omega, h3⟩

/-- A writer, or a reader, of the type t: the bytes l in the slice v, the place at'. -/
structure Oct (w : World) (base p : Nat) (t : TypeId) (v : Value) (l : List Int) (at' : Nat) : Prop where
  heap : w.heap[p]? = some (.cells #[v, .int .i64 (at' : Int), .bool true] t (0, 0))
  ge : base ≤ p
  own : w.ownsRow base 5 1 v l.length (l.map (Value.int .u8))
  ne : v.ownBlock ≠ some p

/-- The blocks of it. -/
def fp (p : Nat) (v : Value) : Nat → Prop := fun k => k = p ∨ v.ownBlock = some k

section
variable {w w' : World} {base p : Nat} {t : TypeId} {v : Value} {l : List Int} {n : Nat}
theorem Oct.lt (h : Oct w base p t v l n) : p < w.heap.size := (Array.getElem?_eq_some_iff.1 h.heap).1
theorem Oct.c0 (h : Oct w base p t v l n) : w.cell? ⟨p, 0, none⟩ = some v := by rw [cell_of_row w p 0 _ t (0, 0) h.heap]; rfl
theorem Oct.c1 (h : Oct w base p t v l n) : w.cell? ⟨p, 1, none⟩ = some (.int .i64 (n : Int)) := by rw [cell_of_row w p 1 _ t (0, 0) h.heap]; rfl
theorem Oct.c2 (h : Oct w base p t v l n) : w.cell? ⟨p, 2, none⟩ = some (.bool true) := by rw [cell_of_row w p 2 _ t (0, 0) h.heap]; rfl
theorem Oct.fz (h : Oct w base p t v l n) (i : Nat) : w.frozen? ⟨p, i, none⟩ = false := frozen_of_row w p i _ t h.heap
theorem Oct.slice (h : Oct w base p t v l n) : ∃ a c, v = .slice a l.length c := by
  rcases h.own.2 with ⟨rfl, h1⟩ | ⟨g, cap, cur, rfl, _⟩
  · exact ⟨none, 0, by rw [h1]⟩
  · exact ⟨_, _, rfl⟩
theorem Oct.mono (h : Oct w base p t v l n) {b : Nat} (hb : b ≤ base) : Oct w b p t v l n := ⟨h.heap, by have := h.ge; omega, owns_mono h.own hb, h.ne⟩
/-- It stays where nothing of it turns. -/
theorem Oct.kept (h : Oct w base p t v l n) {S : Nat → Prop} (hb : But S w w') (hS : ∀ k, S k → ¬ fp p v k) : Oct w' base p t v l n :=
  ⟨(hb.block p h.lt (fun s => hS p s (.inl rfl))).trans h.heap, h.ge, owns_of_block h.own (fun k hk => hb.block k (h.own.lt k hk).2 (fun s => hS k s (.inr hk))), h.ne⟩
theorem Oct.below (h : Oct w base p t v l n) {B : Nat} (hb : Below B w w') (hB : w.heap.size ≤ B) : Oct w' base p t v l n :=
  ⟨(hb.block p (by have := h.lt; omega)).trans h.heap, h.ge, owns_of_block h.own (fun k hk => hb.block k (by have := (h.own.lt k hk).2; omega)), h.ne⟩
theorem Oct.drewN (h : Oct w base p t v l n) (k : Nat) : Oct (w.drewN k) base p t v l n := ⟨h.heap, h.ge, h.own, h.ne⟩
theorem Oct.drew (h : Oct w base p t v l n) : Oct w.drew base p t v l n := ⟨h.heap, h.ge, h.own, h.ne⟩
theorem Oct.alloc (h : Oct w base p t v l n) (o : Obj) : Oct (w.alloc o) base p t v l n := h.below ((Below.refl _ _).alloc (Nat.le_refl _) o) (Nat.le_refl _)
theorem Oct.setAt (h : Oct w base p t v l n) (m : Nat) : Oct (w.setCell ⟨p, 1, none⟩ (.int .i64 (m : Int))) base p t v l m := by
  refine ⟨?_, h.ge, owns_of_block h.own (fun k hk => Below.heap_setCell w _ _ k (fun e => h.ne (by rw [← show k = p from e]; exact hk))), h.ne⟩
  rw [heap_setCell_same w p 1 _ t _ h.heap]
  rfl
theorem Oct.setList (h : Oct w base p t v l n) {v' : Value} {l' : List Int} (ho : w.ownsRow base 5 1 v' l'.length (l'.map (Value.int .u8))) (hn : v'.ownBlock ≠ some p) : Oct (w.setCell ⟨p, 0, none⟩ v') base p t v' l' n := by
  refine ⟨?_, h.ge, owns_of_block ho (fun k hk => Below.heap_setCell w _ _ k (fun e => hn (by rw [← show k = p from e]; exact hk))), hn⟩
  rw [heap_setCell_same w p 0 _ t _ h.heap]
  rfl
theorem Oct.setByte (h : Oct w base p t v l n) {g len c : Nat} (hv : v = .slice (some ⟨g, 0, none⟩) len c) (i : Nat) (x : Int) : Oct (w.setCell ⟨g, i, none⟩ (.int .u8 x)) base p t v (l.set i x) n := by
  have hg : g ≠ p := fun e => h.ne (by rw [hv, e]; rfl)
  refine ⟨(Below.heap_setCell w _ _ p (fun e => hg e.symm)).trans h.heap, h.ge, ?_, h.ne⟩
  refine ⟨by simp, ?_⟩
  rcases h.own.2 with ⟨e, _⟩ | ⟨g', cap, cur, e, h2, h3, h4, h5, h6, h7⟩
  · rw [hv] at e; cases e
  · rw [hv] at e
    cases e
    refine .inr ⟨g, _, _, by rw [hv, List.length_set], h2, heap_setCell_same w g i cur 5 _ h3, by rw [List.length_set]; exact h4, h5, by simpa using h6, ?_⟩
    rw [Array.toList_setIfInBounds, List.take_set, List.length_set, h7, List.map_set]
theorem Oct.has (h : Oct w base p t v l n) (hl : ∀ x ∈ l, 0 ≤ x ∧ x ≤ 255) : ∃ a c, v = .slice a l.length c ∧ Has w a l.length c l := has_of_owns h.own hl
end

/-! The small functions. -/
set_option maxHeartbeats 400000 in
theorem isSize_any (n : Int) (w : World) : Calls Tryd.prog 34 #[.int .i64 n] w fun e w' => e = .returned (.bool (decide (0 ≤ n ∧ n ≤ 64))) ∧ w' = w := by
  by_cases h0 : 0 ≤ n
  · by_cases h1 : n ≤ 64
    · go_enter Tryd.func34, Tryd.ntmps34
      go_wp2
      go_ret
      exact ⟨ret_bool (by simp; omega), rfl⟩
    · go_enter Tryd.func34, Tryd.ntmps34
      go_wp2
      go_ret
      exact ⟨ret_bool (by simp; omega), rfl⟩
  · go_enter Tryd.func34, Tryd.ntmps34
    go_wp2
    go_ret
    exact ⟨ret_bool (by simp; omega), rfl⟩

theorem mask64 (x n : Nat) (hx : x < 18446744073709551616) (hn : n ≤ 64) : bits BinOp.andNot IntKind.u64 (x : Int) (IntKind.u64.wrap (bits BinOp.xor IntKind.u64 IntKind.u64.max 0 * 2 ^ n)) = ((x % 2 ^ n : Nat) : Int) := by
  have e0 : bits BinOp.xor IntKind.u64 IntKind.u64.max 0 = ((18446744073709551615 : Nat) : Int) := by decide +kernel
  have hp : 2 ^ n ≤ 2 ^ 64 := Nat.pow_le_pow_right (by decide) hn
  have e1 : IntKind.u64.wrap (((18446744073709551615 : Nat) : Int) * 2 ^ n) = ((18446744073709551616 - 2 ^ n : Nat) : Int) := by
    rw [IntKind.wrap_u64]
    have e2 : (2 : Int) ^ n = ((2 ^ n : Nat) : Int) := by simp
    rw [e2]
    have h0 := Nat.two_pow_pos n
    generalize 2 ^ n = m at hp h0
    omega
  rw [e0, e1, u64_andNot_nat x _ hx (by have := Nat.two_pow_pos n; omega)]
  congr 1
  have e3 : 18446744073709551615 - (18446744073709551616 - 2 ^ n) = 2 ^ n - 1 := by
    have h0 := Nat.two_pow_pos n
    generalize 2 ^ n = m at hp h0
    omega
  rw [e3, Nat.and_two_pow_sub_one_eq_mod]
theorem mask8 (x n : Nat) (hx : x < 256) (hn : n ≤ 8) : bits BinOp.andNot IntKind.u8 (x : Int) (bits BinOp.xor IntKind.u8 IntKind.u8.max 0 * 2 ^ n % 256) = ((x % 2 ^ n : Nat) : Int) := by
  have e0 : bits BinOp.xor IntKind.u8 IntKind.u8.max 0 = ((255 : Nat) : Int) := by decide +kernel
  have hp : 2 ^ n ≤ 2 ^ 8 := Nat.pow_le_pow_right (by decide) hn
  have e1 : ((255 : Nat) : Int) * 2 ^ n % 256 = ((256 - 2 ^ n : Nat) : Int) := by
    have e2 : (2 : Int) ^ n = ((2 ^ n : Nat) : Int) := by simp
    rw [e2]
    have h0 := Nat.two_pow_pos n
    generalize 2 ^ n = m at hp h0
    omega
  rw [e0, e1, u8_andNot_nat x _ hx (by have := Nat.two_pow_pos n; omega)]
  congr 1
  have e3 : 255 - (256 - 2 ^ n) = 2 ^ n - 1 := by
    have h0 := Nat.two_pow_pos n
    generalize 2 ^ n = m at hp h0
    omega
  rw [e3, Nat.and_two_pow_sub_one_eq_mod]

set_option maxHeartbeats 400000 in
theorem low64_any (x n : Nat) (w : World) (hx : x < 18446744073709551616) (hn : n ≤ 64) : Calls Tryd.prog 37 #[.int .u64 (x : Int), .int .i64 (n : Int)] w fun e w' => e = .returned (.int .u64 ((x % 2 ^ n : Nat) : Int)) ∧ w' = w := by
  have hm := hide (mask64 x n hx hn)
  go_enter Tryd.func37, Tryd.ntmps37
  go_wp2
  go_ret
  exact ⟨ret_int hm.out, rfl⟩
set_option maxHeartbeats 400000 in
theorem low8_any (x n : Nat) (w : World) (hx : x < 256) (hn : n ≤ 8) : Calls Tryd.prog 45 #[.int .u8 (x : Int), .int .i64 (n : Int)] w fun e w' => e = .returned (.int .u8 ((x % 2 ^ n : Nat) : Int)) ∧ w' = w := by
  have hm := hide (mask8 x n hx hn)
  have h8 : min n 8 = n := by omega
  go_enter Tryd.func45, Tryd.ntmps45
  go_wp2
  go_ret
  exact ⟨ret_int hm.out, rfl⟩

set_option maxHeartbeats 400000 in
theorem left_any {w : World} {base p t : Nat} {v : Value} {l : List Int} {n : Nat} (h : Oct w base p t v l n) (hn : n ≤ 8 * l.length) (hl : l.length ≤ 1099511627776) :
    Calls Tryd.prog 35 #[.pointer (some ⟨p, 0, none⟩)] w fun e w' => e = .returned (.int .i64 ((8 * l.length - n : Nat) : Int)) ∧ ∃ k, w' = w.drewN k := by
  obtain ⟨a, c, rfl⟩ := h.slice
  have h0 := h.c0
  have h1 := h.c1
  clear h
  go_enter Tryd.func35, Tryd.ntmps35
  go_wp2_with fail
  go_quiet (fail)
  go_wp2
  go_ret
  exact ⟨ret_int (by omega), _, rfl⟩

set_option maxHeartbeats 400000 in
theorem piece_any {w : World} {base p t : Nat} {v : Value} {l : List Int} {n : Nat} (h : Oct w base p t v l n) (hn : n ≤ 8796093022208) (r : Nat) (hr : r ≤ 64) :
    Calls Tryd.prog 36 #[.pointer (some ⟨p, 0, none⟩), .int .i64 (r : Int)] w fun e w' => e = .returned (.tuple #[.int .i64 ((min r (8 - n % 8) : Nat) : Int), .int .i64 ((8 - n % 8 - min r (8 - n % 8) : Nat) : Int)]) ∧ w' = w := by
  have h1 := h.c1
  clear h
  go_enter Tryd.func36, Tryd.ntmps36
  go_wp2
  all_goals go_ret2
  · exact ⟨by simp; omega, rfl⟩
  · exact ⟨by simp; omega, rfl⟩

set_option maxHeartbeats 400000 in
theorem wlen_any {w : World} {base p t : Nat} {v : Value} {l : List Int} {n : Nat} (h : Oct w base p t v l n) :
    Calls Tryd.prog 18 #[.pointer (some ⟨p, 0, none⟩)] w fun e w' => e = .returned (.int .i64 (n : Int)) ∧ w' = w := by
  have h1 := h.c1
  clear h
  go_enter Tryd.func18, Tryd.ntmps18
  go_wp2
  go_ret
  exact ⟨rfl, rfl⟩
set_option maxHeartbeats 400000 in
theorem rat_any {w : World} {base p t : Nat} {v : Value} {l : List Int} {n : Nat} (h : Oct w base p t v l n) :
    Calls Tryd.prog 27 #[.pointer (some ⟨p, 0, none⟩)] w fun e w' => e = .returned (.int .i64 (n : Int)) ∧ w' = w := by
  have h1 := h.c1
  clear h
  go_enter Tryd.func27, Tryd.ntmps27
  go_wp2
  go_ret
  exact ⟨rfl, rfl⟩
theorem newWriter_any (w : World) : Calls Tryd.prog 8 #[] w fun e w' => ∃ p, e = .returned (.pointer (some ⟨p, 0, none⟩)) ∧ Below w.heap.size w w' ∧ Oct w' w.heap.size p 74 (.slice none 0 0) [] 0 := by
  go_enter Tryd.func8, Tryd.ntmps8
  go_wp2
  go_ret
  exact ⟨_, rfl, (Below.refl _ _).alloc (Nat.le_refl _) _, heap_alloc_new w _, Nat.le_refl _, World.ownsRow_nil _ _ _ _, by simp [Value.ownBlock]⟩

theorem equalIn_nil (w : World) (d : Nat) (a : Option Addr) (l c : Nat) : (Op.equalIn (d + 1) 41 (.slice a l c) (.slice none 0 0)).run Tryd.prog w = .ok a.isNone w := by
  cases a <;> simp [Op.equalIn, run_underlying Tryd.underlying41]
theorem eql_nil (w : World) (a : Option Addr) (l c : Nat) : (binOp .eql 41 (.slice a l c) (.slice none 0 0)).run Tryd.prog w = .ok (.bool a.isNone) w := by
  have h : (Op.equal 41 (.slice a l c) (.slice none 0 0)).run Tryd.prog w = .ok a.isNone w := equalIn_nil w 9999 a l c
  simp [binOp, h]
set_option maxHeartbeats 400000 in
theorem clone_any (w : World) (a : Option Addr) (len cap : Nat) (l : List Int) (h : Has w a len cap l) (hb : len ≤ 1099511627776) :
    Calls Tryd.prog 43 #[.slice a len cap] w (Ret w l) := by
  cases a with
  | none =>
    have h1 := h.nil rfl
    have h2 := h.le
    obtain rfl : cap = 0 := h1
    obtain rfl : len = 0 := by omega
    obtain rfl : l = [] := List.eq_nil_of_length_eq_zero h.hlen
    clear h
    have hq : (binOp .eql 41 (.slice none 0 0) (.slice none 0 0)).run Tryd.prog w = .ok (.bool true) w := eql_nil w none 0 0
    go_enter Tryd.func43, Tryd.ntmps43
    go_wp2
    go_ret
    exact ⟨none, 0, 0, rfl, has_nil w, Below.refl _ _, World.ownsRow_nil _ _ _ _⟩
  | some ad =>
    have H := hide (h.kept ((Below.refl w.heap.size w).alloc (Nat.le_refl _) (.cells #[] 5)) (Nat.le_refl _))
    have hl := hide h.bytes
    have hB : Below w.heap.size w (w.alloc (.cells #[] 5)) := (Below.refl _ _).alloc (Nat.le_refl _) _
    have O := owns_empty w
    clear h
    have hq : (binOp .eql 41 (.slice (some ad) len cap) (.slice none 0 0)).run Tryd.prog w = .ok (.bool false) w := eql_nil w (some ad) len cap
    go_enter Tryd.func43, Tryd.ntmps43
    go_wp2_with (at_builtin; refine wpList_app rfl (.tmp 5) (.tmp 6) rfl w.heap.size _ 0 [] rfl O (some ad) len cap l rfl H.out (by omega) (by simp) ?_; intro v' w' h1 h2)
    go_ret
    refine ret_of_owns (n := 0 + len) (by simpa using h1) hl.out (hB.grown h2 (by simp) (fun k hk => (O.lt k hk).1))

set_option maxHeartbeats 400000 in
theorem wbytes_any {w : World} {base p t : Nat} {v : Value} {l : List Int} {n : Nat} (h : Oct w base p t v l n) (hb : ∀ x ∈ l, 0 ≤ x ∧ x ≤ 255) (hl : l.length ≤ 1099511627776) :
    Calls Tryd.prog 16 #[.pointer (some ⟨p, 0, none⟩)] w (Ret w l) := by
  obtain ⟨a, c, rfl, H⟩ := h.has hb
  have h0 := h.c0
  have C := hide (clone_any w a l.length c l H hl)
  clear h H hb
  go_enter Tryd.func16, Tryd.ntmps16
  go_wp2_with (go_at_call 43; refine C.out.mono ?_; rintro e w' ⟨a', n', c', rfl, R⟩)
  go_ret
  exact ⟨a', n', c', rfl, R⟩

set_option maxHeartbeats 400000 in
theorem newReader_any (w : World) (a : Option Addr) (len cap : Nat) (l : List Int) (h : Has w a len cap l) (hb : len ≤ 1099511627776) :
    Calls Tryd.prog 22 #[.slice a len cap] w fun e w' => ∃ p v, e = .returned (.pointer (some ⟨p, 0, none⟩)) ∧ Below w.heap.size w w' ∧ Oct w' w.heap.size p 88 v l 0 := by
  have C := hide (clone_any w a len cap l h hb)
  clear h
  go_enter Tryd.func22, Tryd.ntmps22
  go_wp2_with (go_at_call 43; refine C.out.mono ?_; rintro e w' ⟨a', n', c', rfl, H', B', O'⟩)
  go_ret
  obtain rfl := H'.hlen
  refine ⟨_, _, rfl, B'.alloc B'.size _, heap_alloc_new w' _, B'.size, O'.alloc _, ?_⟩
  intro e
  have := (O'.lt _ e).2
  omega
end Go.Proofs.YtmddkinecplooaaDoor
