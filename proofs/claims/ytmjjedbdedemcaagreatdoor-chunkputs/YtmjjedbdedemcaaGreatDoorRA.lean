/-
  The reference of bits.
-/
import Derived.Test.YtmjjedbdedemcaaGreatDoorF
import Derived.Maps.AppendAt
import Derived.Deep.RegionHeld3
namespace Go.Proofs.YtmjjedbdedemcaaGreatDoor
open Go.RowKit
set_option linter.unusedVariables false

/-- The reference's reader of the slice (a, len, cap), at the place n. -/
structure Ref (w : World) (base p : Nat) (a : Option Addr) (len cap : Nat) (n : Nat) : Prop where
  heap : w.heap[p]? = some (.cells #[.slice a len cap, .int .i64 (n : Int)] 81 (0, 0))
  ge : base ≤ p
section
variable {w w' : World} {base p len cap n : Nat} {a : Option Addr}
theorem Ref.lt (h : Ref w base p a len cap n) : p < w.heap.size := (Array.getElem?_eq_some_iff.1 h.heap).1
theorem Ref.c0 (h : Ref w base p a len cap n) : w.cell? ⟨p, 0, none⟩ = some (.slice a len cap) := by rw [cell_of_row w p 0 _ 81 (0, 0) h.heap]; rfl
theorem Ref.c1 (h : Ref w base p a len cap n) : w.cell? ⟨p, 1, none⟩ = some (.int .i64 (n : Int)) := by rw [cell_of_row w p 1 _ 81 (0, 0) h.heap]; rfl
theorem Ref.fz (h : Ref w base p a len cap n) (i : Nat) : w.frozen? ⟨p, i, none⟩ = false := frozen_of_row w p i _ 81 h.heap
theorem Ref.drewN (h : Ref w base p a len cap n) (k : Nat) : Ref (w.drewN k) base p a len cap n := ⟨h.heap, h.ge⟩
theorem Ref.setAt (h : Ref w base p a len cap n) (m : Nat) : Ref (w.setCell ⟨p, 1, none⟩ (.int .i64 (m : Int))) base p a len cap m := by
  refine ⟨?_, h.ge⟩
  rw [heap_setCell_same w p 1 _ 81 _ h.heap]
  rfl
theorem Ref.kept (h : Ref w base p a len cap n) {S : Nat → Prop} (hb : But S w w') (hS : ¬ S p) : Ref w' base p a len cap n := ⟨(hb.block p h.lt hS).trans h.heap, h.ge⟩
theorem Ref.below (h : Ref w base p a len cap n) {B : Nat} (hb : Below B w w') (hB : w.heap.size ≤ B) : Ref w' base p a len cap n := ⟨(hb.block p (by have := h.lt; omega)).trans h.heap, h.ge⟩
theorem Ref.bel (h : Ref w base p a len cap n) (hb : But (fun k => k = p) w w') : Below base w w' := hb.below (by have := h.lt; have := h.ge; omega) (fun k hk => by rw [hk]; exact h.ge)
end

theorem bit_more {V N P k X : Nat} (h : P + k + 1 ≤ 8 * N) (hX : X = rd V N P k) : 2 * X + rd V N (P + k) 1 = rd V N P (k + 1) := by
  rw [rd_more V N P k 1 h, ← hX]
  omega

set_option maxHeartbeats 1000000 in
theorem rget_arg {w : World} {p : Nat} (n : Int) (hn : ¬ (0 ≤ n ∧ n ≤ 64)) :
    Calls Tryz.prog 40 #[.pointer (some ⟨p, 0, none⟩), .int .i64 n] w fun e w' => e = .returned (.tuple #[.int .u64 0, .int .i64 2]) ∧ w' = w := by
  by_cases h0 : n < 0
  · go_enter Tryz.func40, Tryz.ntmps40
    go_wp2_with fail
    go_ret2
    exact ⟨rfl, rfl⟩
  · have h1 : 64 < n := by omega
    go_enter Tryz.func40, Tryz.ntmps40
    go_wp2_with fail
    go_ret2
    exact ⟨rfl, rfl⟩

set_option maxHeartbeats 1000000 in
theorem rget_bits {w : World} {base p len cap n0 : Nat} {a : Option Addr} (h : Ref w base p a len cap n0) (hlen : len ≤ 300) (n : Nat) (hn : n ≤ 64) (h0 : n0 ≤ 8 * len) (hroom : 8 * len < n0 + n) :
    Calls Tryz.prog 40 #[.pointer (some ⟨p, 0, none⟩), .int .i64 (n : Int)] w fun e w' => e = .returned (.tuple #[.int .u64 0, .int .i64 50]) ∧ ∃ k, w' = w.drewN k := by
  have c0 := h.c0
  have c1 := h.c1
  have hr : 8 * (len : Int) - (n0 : Int) < (n : Int) := by omega
  clear h
  go_enter Tryz.func40, Tryz.ntmps40
  go_wp2_with fail
  go_quiet (fail)
  go_wp2_with fail
  go_ret2
  exact ⟨rfl, _, rfl⟩

set_option maxHeartbeats 2000000 in
theorem rget_ok {w : World} {base p len cap n0 : Nat} {a : Option Addr} {l : List Int} (h : Ref w base p a len cap n0) (H : Has w a len cap l) (hap : 0 < len → ∀ b off, a = some ⟨b, off, none⟩ → b < base) (hlen : len ≤ 300) (n : Nat) (hn : n ≤ 64) (hroom : n0 + n ≤ 8 * len) :
    Calls Tryz.prog 40 #[.pointer (some ⟨p, 0, none⟩), .int .i64 (n : Int)] w fun e w' => e = .returned (.tuple #[.int .u64 ((rd (num l) len n0 n : Nat) : Int), .int .i64 0]) ∧ Ref w' base p a len cap (n0 + n) ∧ But (fun k => k = p) w w' := by
  have c0 := h.c0
  have c1 := h.c1
  have hr : (n : Int) ≤ 8 * (len : Int) - (n0 : Int) := by omega
  have hr2 : decide (8 * (len : Int) - (n0 : Int) < (n : Int)) = false := by simp; omega
  have hz := hide (rd_zero (num l) len n0)
  have hll : Hid (l.length = len) := H.hlen
  replace h := hide h
  replace H := hide H
  replace hap := hide hap
  go_enter Tryz.func40, Tryz.ntmps40
  go_wp2_with fail
  go_quiet (fail)
  go_wp2_with fail
  go_loopw [6, 7] (fun X i wr => ∃ (k Y : Nat), i = .int .i64 (k : Int) ∧ k ≤ n ∧ X = .int .u64 (Y : Int) ∧ Hid (Y = rd (num l) len n0 k) ∧ Hid (Ref wr base p a len cap (n0 + k)) ∧ Hid (But (fun k => k = p) w wr)) (fun _ i _ => n - (intOf i).toNat)
  case atStart => exact ⟨0, 0, rfl, Nat.zero_le _, rfl, hz.out.symm, h.out.drewN _, (But.refl _ _).drewN _⟩
  case round =>
    clear c0 c1 hz h
    obtain ⟨k, Y, rfl, hk, rfl, hY, O, B⟩ := hrel
    by_cases hkn : k < n
    · have hk1 : (k : Int) < (n : Int) := by omega
      have hlt : 0 < len := by omega
      obtain ⟨b, off, ha, hb, hc⟩ := H.out.cells hlt
      obtain ⟨m, hm⟩ : ∃ m, n0 + k = m := ⟨_, rfl⟩
      rw [hm] at O
      obtain ⟨q, hq⟩ : ∃ q, m / 8 = q := ⟨_, rfl⟩
      have hq2 : q < len := by omega
      have c0 := O.out.c0
      have c1 := O.out.c1
      have fz := O.out.fz 1
      have cq : wr.cell? ⟨b, off + q, none⟩ = some (.int .u8 (l.getD q 0)) := by
        have h1 := hc q hq2
        have h2 := hap.out hlt b off ha
        have h3 := O.out.ge
        rw [World.cell?_of_block (a := ⟨b, off + q, none⟩) (B.out.block b hb (by omega))]
        exact h1
      have hby := getD_byteR H.out.bytes q (by rw [hll.out]; exact hq2)
      have hbit := rd_byte l H.out.bytes m 1 (7 - m % 8) (by rw [hll.out]; omega) (by omega)
      rw [hq, hll.out] at hbit
      have hmore := hide (bit_more (V := num l) (N := len) (show n0 + k + 1 ≤ 8 * len by omega) hY.out)
      rw [hm, ← hbit] at hmore
      have hYl : Y < 2 ^ k := by rw [hY.out]; exact rd_lt _ _ _ _
      have hYb : (Y : Int) < 9223372036854775808 := by
        have : 2 ^ k ≤ 2 ^ 63 := Nat.pow_le_pow_right (by decide) (by omega)
        omega
      obtain ⟨c0', hc0'⟩ : ∃ c : Nat, l.getD q 0 = (c : Int) := ⟨(l.getD q 0).toNat, by omega⟩
      rw [hc0'] at cq hby hmore
      rw [Int.toNat_natCast] at hmore
      have hcb : (c0' : Int) ≤ 255 := hby.2
      have e1 : (m : Int) / 8 = (q : Int) := by omega
      have hmb : (m : Int) ≤ 2400 := by omega
      have hq3 : (q : Int) < (len : Int) := by omega
      have hq5 : (0 : Int) ≤ (q : Int) := by omega
      have hq6 : IntKind.i64.wrap (q : Int) = (q : Int) := by unfold IntKind.wrap; simp [IntKind.bits, IntKind.signed]; omega
      obtain ⟨s, hs⟩ : ∃ s, m % 8 = s := ⟨_, rfl⟩
      have e2 : (m : Int) % 8 = (s : Int) := by omega
      have hs8 : s < 8 := by omega
      rw [hs] at hmore
      have FIN : Hid (∀ wx : World, Ref wx base p a len cap m → But (fun k => k = p) w wx → Hid (Ref (wx.setCell ⟨p, 1, none⟩ (.int .i64 ((n0 + (k + 1) : Nat) : Int))) base p a len cap (n0 + (k + 1))) ∧ Hid (But (fun k => k = p) w (wx.setCell ⟨p, 1, none⟩ (.int .i64 ((n0 + (k + 1) : Nat) : Int))))) := fun wx h1 h2 =>
        ⟨h1.setAt _, h2.setCell (p := ⟨p, 1, none⟩) (fun _ => rfl) _⟩
      have e3 : (m : Int) + 1 = ((n0 + (k + 1) : Nat) : Int) := by omega
      clear hc hc0' hby hbit hs hq hm hYl
      subst ha
      go_wp2_with fail
      go_quiet (fail)
      go_wp2_with fail
      go_loop [8, 9] (fun bb i => ∃ j c : Nat, s ≤ j ∧ j ≤ 7 ∧ i = .int .i64 (j : Int) ∧ bb = .int .i64 (c : Int) ∧ c ≤ 255 ∧ Hid (c = c0' / 2 ^ (j - s))) (fun _ i => 7 - (intOf i).toNat)
      case atStart => exact ⟨s, c0', Nat.le_refl _, by omega, v64 e2, rfl, by omega, by rw [Nat.sub_self, Nat.pow_zero]; exact (Nat.div_one _).symm⟩
      case round =>
        obtain ⟨j, c, hj1, hj2, rfl, rfl, hcb2, hcj⟩ := hrel
        by_cases hj : j < 7
        · have hj3 : (j : Int) < 7 := by omega
          have hnext : Hid (c / 2 = c0' / 2 ^ (j + 1 - s)) := by
            show c / 2 = _
            rw [hcj.out, Nat.div_div_eq_div_mul, ← Nat.pow_succ, show (j - s).succ = j + 1 - s by omega]
          go_wp2_with fail
          go_round
          case rel => exact ⟨j + 1, c / 2, by omega, by omega, by go_num, v64 (by omega), by omega, hnext⟩
          case measure => simp [intOf]; omega
        · obtain rfl : 7 = j := by omega
          simp only [show ((7 : Nat) : Int) = 7 from rfl]
          have hY2 : Hid (2 * Y + c % 2 = rd (num l) len n0 (k + 1)) := by
            have := hmore.out
            rw [Nat.pow_one, ← hcj.out] at this
            exact this
          go_wp2_with fail
          go_roundw
          case rel => exact ⟨k + 1, 2 * Y + c % 2, by go_num, by omega, vu (by omega), hY2, (FIN.out _ (O.out.drewN _) (B.out.drewN _)).1, (FIN.out _ (O.out.drewN _) (B.out.drewN _)).2⟩
          case measure => simp [intOf]; omega
    · obtain rfl : n = k := by omega
      go_wp2_with fail
      go_ret2
      refine ⟨?_, O.out, B.out⟩
      rw [← hY.out]
      rfl
/-- The number that bits are, the first one the highest. -/
def numB (L : List Bool) : Nat := L.foldl (fun a b => 2 * a + b.toNat) 0
theorem numB_nil : numB [] = 0 := rfl
theorem numB_from (M : List Bool) : ∀ x, M.foldl (fun a b => 2 * a + b.toNat) x = x * 2 ^ M.length + numB M := by
  induction M with
  | nil => intro x; simp [numB]
  | cons b M ih =>
    intro x
    have h1 := ih (2 * x + b.toNat)
    have h2 := ih (2 * 0 + b.toNat)
    simp only [List.foldl_cons, List.length_cons, numB] at h1 h2 ⊢
    rw [h1, h2, Nat.pow_succ, Nat.add_mul, Nat.mul_zero, Nat.zero_add, Nat.mul_comm 2 x, Nat.mul_assoc, Nat.mul_comm 2 (2 ^ M.length), Nat.add_assoc]
theorem numB_app (L M : List Bool) : numB (L ++ M) = numB L * 2 ^ M.length + numB M := by
  unfold numB
  rw [List.foldl_append]
  exact numB_from M _
theorem numB_cons (b : Bool) (M : List Bool) : numB (b :: M) = b.toNat * 2 ^ M.length + numB M := by
  have := numB_app [b] M
  rw [show numB [b] = b.toNat by simp [numB]] at this
  exact this
theorem numB_snoc (L : List Bool) (b : Bool) : numB (L ++ [b]) = 2 * numB L + b.toNat := by
  rw [numB_app, show numB [b] = b.toNat by simp [numB]]
  simp
  omega
theorem numB_lt (L : List Bool) : numB L < 2 ^ L.length := by
  induction L with
  | nil => simp [numB]
  | cons b M ih =>
    rw [numB_cons, List.length_cons, Nat.pow_succ]
    cases b <;> simp <;> omega
theorem numB_take (L : List Bool) (i : Nat) (h : i < L.length) : numB (L.take (i + 1)) = 2 * numB (L.take i) + (L.getD i false).toNat := by
  rw [List.take_add_one, List.getElem?_eq_getElem h, Option.toList_some, numB_snoc]
  simp [List.getD, List.getElem?_eq_getElem h]
/-- One bit more of the number, from behind. -/
theorem numB_set {M : List Bool} {x n j : Nat} (hM : M.length = n) (hj : j < n) (h : numB (M.drop (j + 1)) = x % 2 ^ (n - (j + 1))) :
    numB ((M.set j (decide (x / 2 ^ (n - (j + 1)) % 2 = 1))).drop j) = x % 2 ^ (n - j) := by
  have e1 : (M.set j (decide (x / 2 ^ (n - (j + 1)) % 2 = 1))).drop j = decide (x / 2 ^ (n - (j + 1)) % 2 = 1) :: M.drop (j + 1) := by
    rw [List.drop_eq_getElem_cons (by simp; omega)]
    simp [List.drop_set_of_lt]
  rw [e1, numB_cons, h, List.length_drop, hM, show n - j = 1 + (n - (j + 1)) by omega, modsplit]
  congr 2
  have := Nat.mod_two_eq_zero_or_one (x / 2 ^ (n - (j + 1)))
  rcases this with h1 | h1 <;> simp [h1]

/-- The reference's writer, whose bits lie in v. -/
structure RW (w : World) (base p : Nat) (v : Value) (L : List Bool) : Prop where
  heap : w.heap[p]? = some (.cells #[v] 47 (0, 0))
  ge : base ≤ p
  own : w.ownsRow base 4 1 v L.length (L.map Value.bool)
  ne : v.ownBlock ≠ some p
section
variable {w w' : World} {base p : Nat} {v : Value} {L : List Bool}
theorem RW.lt (h : RW w base p v L) : p < w.heap.size := (Array.getElem?_eq_some_iff.1 h.heap).1
theorem RW.c0 (h : RW w base p v L) : w.cell? ⟨p, 0, none⟩ = some v := by rw [cell_of_row w p 0 _ 47 (0, 0) h.heap]; rfl
theorem RW.fz (h : RW w base p v L) (i : Nat) : w.frozen? ⟨p, i, none⟩ = false := frozen_of_row w p i _ 47 h.heap
theorem RW.slice (h : RW w base p v L) : ∃ a c, v = .slice a L.length c := by
  rcases h.own.2 with ⟨rfl, h1⟩ | ⟨g, cap, cur, rfl, _⟩
  · exact ⟨none, 0, by rw [h1]⟩
  · exact ⟨_, _, rfl⟩
theorem RW.fplt (h : RW w base p v L) : ∀ k, fp p v k → base ≤ k ∧ k < w.heap.size := fun k hk => by
  rcases hk with rfl | hk
  · exact ⟨h.ge, h.lt⟩
  · exact h.own.lt k hk
theorem RW.kept (h : RW w base p v L) {S : Nat → Prop} (hb : But S w w') (hS : ∀ k, S k → ¬ fp p v k) : RW w' base p v L :=
  ⟨(hb.block p h.lt (fun s => hS p s (.inl rfl))).trans h.heap, h.ge, owns_of_block h.own (fun k hk => hb.block k (h.own.lt k hk).2 (fun s => hS k s (.inr hk))), h.ne⟩
theorem RW.below (h : RW w base p v L) {B : Nat} (hb : Below B w w') (hB : w.heap.size ≤ B) : RW w' base p v L :=
  ⟨(hb.block p (by have := h.lt; omega)).trans h.heap, h.ge, owns_of_block h.own (fun k hk => hb.block k (by have := (h.own.lt k hk).2; omega)), h.ne⟩
theorem RW.drewN (h : RW w base p v L) (k : Nat) : RW (w.drewN k) base p v L := ⟨h.heap, h.ge, h.own, h.ne⟩
theorem RW.drew (h : RW w base p v L) : RW w.drew base p v L := ⟨h.heap, h.ge, h.own, h.ne⟩
theorem RW.bel (h : RW w base p v L) (hb : But (fp p v) w w') : Below base w w' :=
  hb.below (by have := h.lt; have := h.ge; omega) (fun k hk => (h.fplt k hk).1)
end
theorem Did.rw {w w' : World} {base p p' : Nat} {v v1 v' : Value} {L : List Bool} {base' : Nat} (h : Did w w' base p v v1) (d : Dis p v p' v') (o : RW w base' p' v' L) : RW w' base' p' v' L ∧ Dis p v1 p' v' :=
  ⟨o.kept h.but d, fun k h1 h2 => by
    rcases h1 with rfl | h1
    · exact d k (.inl rfl) h2
    · exact d k (.inr (h.own k (o.fplt k h2).2 h1)) h2⟩

theorem info4 : (Tryz.prog.info? 4).map (fun i => (i.zero, i.size, i.bytes)) = some (some (.bool false), 1, 1) := by kernel_rfl

theorem wpList_makeB {w : World} {ops : Array Oper} {rest : List Oper} {o : Oper} {a : Act} {Q : Exit → Act → World → Prop}
    (hg : o.guard = none) (lo co : Operand) (hop : o.op = Op.makeSlice 45 lo co) (n : Nat) (hl : a.eval lo = .int .i64 (n : Int)) (hc : a.eval co = .int .i64 (n : Int)) (hb : n ≤ 4398046511104)
    (h : ∀ w', w'.ownsRow w.heap.size 4 1 (.slice (some ⟨w.heap.size, 0, none⟩) n n) n ((List.replicate n false).map Value.bool) → Below w.heap.size w w' → w'.heap.size = w.heap.size + 1 →
      wpList Tryz.prog ops Q rest (a.put o.dst (.slice (some ⟨w.heap.size, 0, none⟩) n n)) w') :
    wpList Tryz.prog ops Q (o :: rest) a w := by
  obtain ⟨i0, hi, hz0, hz1, hz2⟩ := info_parts info4
  refine wpList_plain hg fun K hK' => ?_
  have hrun := run_make (P := Tryz.prog) w 45 4 i0 (.bool false) Tryz.underlying45 hi hz0 .i64 .i64 n n (by omega) (by omega) (by rw [hz2]; omega) (by omega)
  simp only [Int.toNat_natCast, hz1, Nat.mul_one] at hrun
  unfold Oper.wp
  simp [execOp, hop, hl, hc, hrun, Result.andThen]
  refine hK' _ _ (h _ ⟨by simp, .inr ⟨w.heap.size, n, _, rfl, Nat.le_refl _, heap_alloc_new w _, Nat.le_refl _, by unfold maxLen; omega, ?_, ?_⟩⟩ ((Below.refl _ _).alloc (Nat.le_refl _) _) (by simp))
  · rw [size_madeCells]; omega
  · rw [show (Value.bool false).cells = #[.bool false] from rfl, toList_madeCells_one]
    simp
set_option maxHeartbeats 1000000 in
theorem rput_arg {w : World} {p : Nat} (x n : Int) (hn : ¬ (0 ≤ n ∧ n ≤ 64)) :
    Calls Tryz.prog 42 #[.pointer (some ⟨p, 0, none⟩), .int .u64 x, .int .i64 n] w fun e w' => e = .returned (.int .i64 2) ∧ w' = w := by
  by_cases h0 : n < 0
  · go_enter Tryz.func42, Tryz.ntmps42
    go_wp2_with fail
    go_ret
    exact ⟨rfl, rfl⟩
  · have h1 : 64 < n := by omega
    go_enter Tryz.func42, Tryz.ntmps42
    go_wp2_with fail
    go_ret
    exact ⟨rfl, rfl⟩

theorem bools_oneCell (M : List Bool) : ∀ u ∈ M.map Value.bool, u.oneCell' = true := by
  intro u hu
  obtain ⟨b, _, rfl⟩ := List.mem_map.1 hu
  rfl

theorem rput_grow {w wr w2 : World} {base p : Nat} {v v2 : Value} {L M : List Bool} {n : Nat} (O : RW wr base p v L) (B : Below w.heap.size w wr) (hp : p < w.heap.size) (hv : ∀ k, v.ownBlock = some k → k < w.heap.size) (hM : M.length = n)
    (O2 : w2.ownsRow base 4 1 v2 (L.length + n) (L.map Value.bool ++ M.map Value.bool)) (G : wr.grownBy w2 v.ownBlock) (hat : v2.ownBlock = v.ownBlock ∨ v2.ownBlock = some wr.heap.size) :
    ∃ a2 c2, v2 = .slice a2 (L.length + n) c2 ∧ w2.cell? ⟨p, 0, none⟩ = some v ∧ w2.frozen? ⟨p, 0, none⟩ = false ∧ Hid (RW (w2.setCell ⟨p, 0, none⟩ v2) base p v2 (L ++ M)) ∧
      Hid (But (fp p v) w (w2.setCell ⟨p, 0, none⟩ v2)) ∧ Hid (∀ i, i < w.heap.size → v2.ownBlock = some i → v.ownBlock = some i) := by
  have hpw : w2.heap[p]? = wr.heap[p]? := G.block p O.lt (fun e => O.ne e.symm)
  have c0 : w2.cell? ⟨p, 0, none⟩ = some v := (World.cell?_of_block (a := ⟨p, 0, none⟩) hpw).trans O.c0
  have f0 : w2.frozen? ⟨p, 0, none⟩ = false := (World.frozen?_of_block (a := ⟨p, 0, none⟩) hpw).trans (O.fz 0)
  have hne : v2.ownBlock ≠ some p := by
    rcases hat with h | h
    · rw [h]; exact O.ne
    · rw [h]; intro e; have := O.lt; have : wr.heap.size = p := by simpa using e
      omega
  have hsl : ∃ a2 c2, v2 = .slice a2 (L.length + n) c2 := by
    rcases O2.2 with ⟨h1, h2⟩ | ⟨g, cap, cur, h1, _⟩
    · exact ⟨none, 0, by rw [h1, h2]⟩
    · exact ⟨_, _, h1⟩
  obtain ⟨a2, c2, hs⟩ := hsl
  have R : RW (w2.setCell ⟨p, 0, none⟩ v2) base p v2 (L ++ M) := by
    refine ⟨?_, O.ge, ?_, hne⟩
    · have := heap_setCell_same w2 p 0 _ 47 v2 (hpw.trans O.heap)
      exact this
    · rw [List.length_append, hM, List.map_append]
      exact owns_of_block O2 (fun k hk => Below.heap_setCell w2 _ _ k (fun e => hne (by rw [← show k = p from e]; exact hk)))
  have Bu : But (fp p v) w wr := but_of_below B _ (fun k h1 h2 => by omega)
  refine ⟨a2, c2, hs, c0, f0, R, (Bu.grown G (fun k hk hlt => .inr hk)).setCell (p := ⟨p, 0, none⟩) (fun _ => .inl rfl) _, ?_⟩
  intro i hi hk
  rcases hat with h | h
  · rw [← h]; exact hk
  · rw [h] at hk
    have : wr.heap.size = i := by simpa using hk
    have := B.size
    omega

set_option maxHeartbeats 2000000 in
theorem rput_ok {w : World} {base p : Nat} {v : Value} {L : List Bool} (h : RW w base p v L) (x n : Nat) (hx : x < 18446744073709551616) (hn : n ≤ 64) (hroom : L.length + n ≤ 524288) :
    Calls Tryz.prog 42 #[.pointer (some ⟨p, 0, none⟩), .int .u64 (x : Int), .int .i64 (n : Int)] w fun e w' => e = .returned (.int .i64 0) ∧ ∃ v' L', RW w' base p v' L' ∧ numB L' = numB L * 2 ^ n + x % 2 ^ n ∧ L'.length = L.length + n ∧ But (fp p v) w w' ∧ (∀ i, i < w.heap.size → v'.ownBlock = some i → v.ownBlock = some i) := by
  obtain ⟨a, c, hv⟩ := h.slice
  have c0 := h.c0
  rw [hv] at c0
  have hpl := hide h.lt
  have hvl : Hid (∀ k, v.ownBlock = some k → k < w.heap.size) := fun k hk => (h.own.lt k hk).2
  have hbs : Hid (base ≤ w.heap.size) := by have h1 := h.ge; have h2 := h.lt; show _ ≤ _; omega
  have hr : (L.length : Int) + (n : Int) ≤ 524288 := by omega
  have hr2 : decide (524288 < (L.length : Int) + (n : Int)) = false := by simp; omega
  have hz : Hid (x / 2 ^ 0 = x ∧ x % 2 ^ 0 = 0) := ⟨by simp, by simp [Nat.mod_one]⟩
  replace h := hide h
  replace hv := hide hv
  go_enter Tryz.func42, Tryz.ntmps42
  go_wp2_with (at_make; refine wpList_makeB rfl (.tmp 23) (.tmp 23) rfl n rfl rfl (by omega) ?_; intro w1 O1 B1 hs1)
  replace O1 := hide O1
  replace B1 := hide B1
  replace hs1 := hide hs1
  clear c0
  go_loopw [1, 8] (fun X i wr => ∃ (j y : Nat) (M : List Bool), j ≤ n ∧ i = .int .i64 ((j : Int) - 1) ∧ X = .int .u64 (y : Int) ∧ Hid (y = x / 2 ^ (n - j)) ∧ Hid (M.length = n) ∧ Hid (numB (M.drop j) = x % 2 ^ (n - j)) ∧ Hid (wr.ownsRow w.heap.size 4 1 (.slice (some ⟨w.heap.size, 0, none⟩) n n) n (M.map Value.bool)) ∧ Hid (Below w.heap.size w wr)) (fun _ i _ => (intOf i + 1).toNat)
  case atStart =>
    refine ⟨n, x, List.replicate n false, Nat.le_refl _, rfl, rfl, ?_, by show (List.replicate n false).length = n; simp, ?_, O1, B1⟩
    · rw [Nat.sub_self]; exact hz.out.1.symm
    · rw [Nat.sub_self, show (List.replicate n false).drop n = [] by simp]; exact hz.out.2.symm
  case round =>
    clear O1 B1 hs1 hz
    obtain ⟨j, y, M, hj, rfl, rfl, hy, hM, hN, O, B⟩ := hrel
    have hyb : y < 18446744073709551616 := by rw [hy.out]; exact Nat.lt_of_le_of_lt (Nat.div_le_self _ _) hx
    by_cases hj0 : j = 0
    · subst hj0
      simp only [show ((0 : Nat) : Int) - 1 = -1 from rfl]
      have RO := hide (h.out.below B.out (Nat.le_refl _))
      have c0 := RO.out.c0
      have hcel := hide (O.out.cells (g := w.heap.size) rfl)
      obtain ⟨i0, hi, hz0, hz1, hz2⟩ := info_parts info4
      replace hi := hide hi
      replace hz0 := hide hz0
      replace hz1 := hide hz1
      replace hz2 := hide hz2
      rw [hv.out] at c0
      go_wp2_with (at_builtin; refine wpList_append_own_at _ rfl (.tmp 43) (.tmp 44) 45 rfl base 4 i0 (.bool false) 1 1 Tryz.underlying45 hi.out hz0.out hz1.out hz2.out rfl (by decide) v L.length (L.map Value.bool) hv.out.symm RO.out.own ⟨w.heap.size, 0, none⟩ n n (M.map Value.bool) rfl (by rw [List.length_map, hM.out, Nat.mul_one]) hcel.out (bools_oneCell M) (by unfold maxLen; omega) (by omega) (by have h1 := hbs.out; have h2 := B.out.size; omega) ?_; intro v2 w2 O2 G2 _ hat; obtain ⟨a2, c2, rfl, d0, f0, R2, B2, S2⟩ := rput_grow RO.out B.out hpl.out hvl.out hM.out O2 G2 hat)
      go_ret
      refine ⟨rfl, _, _, R2.out, ?_, by rw [List.length_append, hM.out], B2.out, S2.out⟩
      have h9 := hN.out
      rw [show n - 0 = n by omega, List.drop_zero] at h9
      rw [numB_app, hM.out, h9]
    · obtain ⟨k, rfl⟩ : ∃ k, j = k + 1 := ⟨j - 1, by omega⟩
      have e1 : ((k + 1 : Nat) : Int) - 1 = (k : Int) := by omega
      have hk : (k : Int) < (n : Int) := by omega
      have hk0 : (0 : Int) ≤ (k : Int) := by omega
      have hset := hide (numB_set hM.out (show k < n by omega) hN.out)
      rw [← hy.out] at hset
      have hb : ((y : Int) % 2 == 1) = decide (y % 2 = 1) := by
        rw [Bool.eq_iff_iff, beq_iff_eq, decide_eq_true_iff]; omega
      have hy2 : Hid (y / 2 = x / 2 ^ (n - k)) := by
        show y / 2 = _
        rw [hy.out, Nat.div_div_eq_div_mul, ← Nat.pow_succ, show (n - (k + 1)).succ = n - k by omega]
      have ck : ∃ u, wr.cell? ⟨w.heap.size, k, none⟩ = some u := by
        rw [O.out.cellAt k (by omega)]
        exact ⟨_, List.getElem?_eq_getElem (by rw [List.length_map, hM.out]; omega)⟩
      obtain ⟨u, ck⟩ := ck
      have fk := O.out.frozenAt k
      have ON := hide (O.out.stored k (.bool (decide (y % 2 = 1))))
      have BN := hide (B.out.setCell (p := ⟨w.heap.size, k, none⟩) (Nat.le_refl _) (.bool (decide (y % 2 = 1))))
      rw [show (M.map Value.bool).set k (.bool (decide (y % 2 = 1))) = (M.set k (decide (y % 2 = 1))).map Value.bool by rw [List.map_set]] at ON
      have hM2 : Hid ((M.set k (decide (y % 2 = 1))).length = n) := by show _ = _; rw [List.length_set]; exact hM.out
      generalize decide (y % 2 = 1) = bb at *
      rw [e1]
      go_wp2_with fail
      go_roundw
      case rel => exact ⟨k, y / 2, M.set k bb, by omega, rfl, vu (by omega), hy2, hM2, hset, ON.out.1, BN⟩
      case measure => simp [intOf]
theorem bit_set {l : List Int} {T N i q s : Nat} (hl : ∀ x ∈ l, 0 ≤ x ∧ x ≤ 255) (hN : l.length = N) (hi : i < 8 * N) (hq : i / 8 = q) (hs : i % 8 = s) (h : num l = T * 2 ^ (8 * N - i)) :
    (l.getD q 0).toNat + 2 ^ (7 - s) ≤ 255 ∧ num (l.set q (((l.getD q 0).toNat + 2 ^ (7 - s) : Nat) : Int)) = (2 * T + 1) * 2 ^ (8 * N - (i + 1)) := by
  have hg := num_get l q (by omega) hl
  have hp : 256 ^ (l.length - 1 - q) = 2 ^ (8 * (N - 1 - q)) := by rw [hN, pow256]
  rw [hp, h, show 8 * N - i = (8 - s) + 8 * (N - 1 - q) by omega, Nat.pow_add, ← Nat.mul_assoc, Nat.mul_div_cancel _ (Nat.two_pow_pos _)] at hg
  have e8 : (256 : Nat) = 2 ^ s * 2 ^ (8 - s) := by rw [← Nat.pow_add, show s + (8 - s) = 8 by omega]
  rw [e8, Nat.mul_mod_mul_right] at hg
  have hT : T % 2 ^ s < 2 ^ s := Nat.mod_lt _ (Nat.two_pow_pos _)
  have e7 : 2 ^ (8 - s) = 2 * 2 ^ (7 - s) := by rw [show 8 - s = (7 - s) + 1 by omega, Nat.pow_succ, Nat.mul_comm]
  constructor
  · have h1 : T % 2 ^ s * 2 ^ (8 - s) + 2 ^ (8 - s) ≤ 256 := by
      rw [e8]
      calc T % 2 ^ s * 2 ^ (8 - s) + 2 ^ (8 - s) = (T % 2 ^ s + 1) * 2 ^ (8 - s) := by rw [Nat.add_mul, Nat.one_mul]
        _ ≤ 2 ^ s * 2 ^ (8 - s) := Nat.mul_le_mul_right _ hT
    have h2 := Nat.two_pow_pos (7 - s)
    omega
  · have hset := num_set l q (((l.getD q 0).toNat + 2 ^ (7 - s) : Nat) : Int) (by omega)
    rw [hp, Int.toNat_natCast, h, Nat.add_mul] at hset
    have e9 : 2 ^ (7 - s) * 2 ^ (8 * (N - 1 - q)) = 2 ^ (8 * N - (i + 1)) := by rw [← Nat.pow_add, show 7 - s + 8 * (N - 1 - q) = 8 * N - (i + 1) by omega]
    have e10 : 2 ^ (8 * N - i) = 2 * 2 ^ (8 * N - (i + 1)) := by rw [show 8 * N - i = (8 * N - (i + 1)) + 1 by omega, Nat.pow_succ, Nat.mul_comm]
    rw [e9, e10, ← Nat.mul_assoc, Nat.mul_comm T 2] at hset
    rw [Nat.add_mul, Nat.one_mul]
    omega

theorem u8 {a b : Int} (h : a = b) : Value.int .u8 a = .int .u8 b := by rw [h]

set_option maxHeartbeats 2000000 in
theorem rbytes_any {w : World} {base p : Nat} {v : Value} {L : List Bool} (h : RW w base p v L) (hL : L.length ≤ 524288) :
    Calls Tryz.prog 21 #[.pointer (some ⟨p, 0, none⟩)] w fun e w' => ∃ l, Holds l (numB L) L.length ∧ Ret w l e w' := by
  obtain ⟨a, c, hv⟩ := h.slice
  have c0 := h.c0
  rw [hv] at c0
  obtain ⟨n, hn⟩ : ∃ n, L.length = n := ⟨_, rfl⟩
  rw [hn] at c0 hv
  obtain ⟨N, hN⟩ : ∃ N, (n + 7) / 8 = N := ⟨_, rfl⟩
  have eN : ((n : Int) + 7) / 8 = (N : Int) := by omega
  have hnb : (n : Int) ≤ 524288 := by omega
  have hNb : N ≤ 65536 := by omega
  have hN1 : n ≤ 8 * N := by omega
  have hN2 : 8 * N < n + 8 := by omega
  have hz0 : Hid (num (List.replicate N (0 : Int)) = numB (L.take 0) * 2 ^ (8 * N - 0)) := by
    show _ = _
    rw [List.take_zero, numB_nil, Nat.zero_mul]
    have : ∀ k, num (List.replicate k (0 : Int)) = 0 := by
      intro k
      induction k with
      | zero => rfl
      | succ k ih => rw [List.replicate_succ', num_snoc, ih]; rfl
    exact this N
  replace hN := hide hN
  replace hn := hide hn
  replace h := hide h
  replace hv := hide hv
  go_enter Tryz.func21, Tryz.ntmps21
  go_wp2_with (at_make; refine wpList_make2 rfl (.tmp 13) (.tmp 13) rfl N N _ _ rfl rfl eN eN (Nat.le_refl _) (by omega) ?_; intro w1 O1 B1)
  replace O1 := hide O1
  replace B1 := hide B1
  clear c0
  go_loopw [4] (fun i wr => ∃ (k : Nat) (l : List Int), k ≤ n ∧ i = .int .i64 (k : Int) ∧ Hid (l.length = N ∧ (∀ x ∈ l, 0 ≤ x ∧ x ≤ 255)) ∧ Hid (num l = numB (L.take k) * 2 ^ (8 * N - k)) ∧ Hid (wr.ownsRow w.heap.size 5 1 (.slice (some ⟨w.heap.size, 0, none⟩) N N) N (l.map (Value.int .u8))) ∧ Hid (Below w.heap.size w wr)) (fun i _ => n - (intOf i).toNat)
  case atStart =>
    refine ⟨0, List.replicate N 0, Nat.zero_le _, rfl, ⟨by simp, fun x hx => ?_⟩, hz0, O1, B1⟩
    have := (List.mem_replicate.1 hx).2
    omega
  case round =>
    clear O1 B1 hz0
    obtain ⟨k, l, hk, rfl, hl, hnum, O, B⟩ := hrel
    have RO := hide (h.out.below B.out (Nat.le_refl _))
    have c0 := RO.out.c0
    rw [hv.out] at c0
    by_cases hkn : k < n
    · have hk1 : (k : Int) < (n : Int) := by omega
      obtain ⟨gv, ha⟩ : ∃ gv, a = some ⟨gv, 0, none⟩ := by
        rcases h.out.own.2 with ⟨_, h1⟩ | ⟨g, cap, cur, h1, _⟩
        · have := hn.out; omega
        · rw [hv.out] at h1; cases h1; exact ⟨g, rfl⟩
      subst ha
      have cb : wr.cell? ⟨gv, k, none⟩ = some (.bool (L.getD k false)) := by
        have := RO.out.own.cells (g := gv) (by rw [hv.out]; rfl) k (.bool (L.getD k false)) (by simp [List.getD, List.getElem?_eq_getElem (show k < L.length by have := hn.out; omega)])
        rwa [add_plain, Nat.zero_add] at this
      have htk := hide (numB_take L k (by have := hn.out; omega))
      cases hb : L.getD k false with
      | false =>
        rw [hb] at cb htk
        have hnum2 : Hid (num l = numB (L.take (k + 1)) * 2 ^ (8 * N - (k + 1))) := by
          show _ = _
          rw [htk.out, hnum.out, show 8 * N - k = (8 * N - (k + 1)) + 1 by omega, Nat.pow_succ]
          simp only [Bool.toNat_false, Nat.add_zero]
          rw [Nat.mul_comm 2 (numB _), Nat.mul_assoc, Nat.mul_comm 2]
        go_wp2_with fail
        go_roundw
        case rel => exact ⟨k + 1, l, by omega, by go_num, hl, hnum2, O, B⟩
        case measure => simp [intOf]; omega
      | true =>
        rw [hb] at cb htk
        obtain ⟨q, hq⟩ : ∃ q, k / 8 = q := ⟨_, rfl⟩
        obtain ⟨s, hs⟩ : ∃ s, k % 8 = s := ⟨_, rfl⟩
        have e1 : (k : Int) / 8 = (q : Int) := by omega
        have e2 : (k : Int) % 8 = (s : Int) := by omega
        have hs8 : s < 8 := by omega
        have hqN : q < N := by omega
        have hqN' : (q : Int) < (N : Int) := by omega
        have BS := bit_set hl.out.2 hl.out.1 (show k < 8 * N by omega) hq hs hnum.out
        have hby := getD_byteR hl.out.2 q (by rw [hl.out.1]; exact hqN)
        obtain ⟨cc, hcc⟩ : ∃ cc : Nat, l.getD q 0 = (cc : Int) := ⟨(l.getD q 0).toNat, by omega⟩
        rw [hcc, Int.toNat_natCast] at BS
        have cq : wr.cell? ⟨w.heap.size, q, none⟩ = some (.int .u8 (cc : Int)) := by
          have := O.out.cells (g := w.heap.size) rfl q (.int .u8 (l.getD q 0)) (by simp [List.getD, List.getElem?_eq_getElem (show q < l.length by rw [hl.out.1]; exact hqN)])
          rw [add_plain, Nat.zero_add, hcc] at this
          exact this
        have fq := O.out.frozenAt q
        have hnum2 : Hid (num (l.set q ((cc + 2 ^ (7 - s) : Nat) : Int)) = numB (L.take (k + 1)) * 2 ^ (8 * N - (k + 1))) := by
          show _ = _
          rw [htk.out, BS.2]
          rfl
        have hzb := BS.1
        have ON := hide (O.out.stored q (.int .u8 ((cc + 2 ^ (7 - s) : Nat) : Int))).1
        rw [show (l.map (Value.int .u8)).set q (.int .u8 ((cc + 2 ^ (7 - s) : Nat) : Int)) = (l.set q ((cc + 2 ^ (7 - s) : Nat) : Int)).map (Value.int .u8) by rw [List.map_set]] at ON
        have BN := hide (B.out.setCell (p := ⟨w.heap.size, q, none⟩) (Nat.le_refl _) (.int .u8 ((cc + 2 ^ (7 - s) : Nat) : Int)))
        have hl2 : Hid ((l.set q ((cc + 2 ^ (7 - s) : Nat) : Int)).length = N ∧ ∀ x ∈ l.set q ((cc + 2 ^ (7 - s) : Nat) : Int), 0 ≤ x ∧ x ≤ 255) := by
          refine ⟨by rw [List.length_set]; exact hl.out.1, fun x hx => ?_⟩
          rcases List.mem_or_eq_of_mem_set hx with h1 | h1
          · exact hl.out.2 x h1
          · rw [h1]; exact ⟨Int.natCast_nonneg _, Int.ofNat_le.2 hzb⟩
        have hfin : Hid (128 / 2 ^ s = 2 ^ (7 - s)) := by
          show _ = _
          rw [show (128 : Nat) = 2 ^ (7 - s) * 2 ^ s by rw [← Nat.pow_add, show 7 - s + s = 7 by omega], Nat.mul_div_cancel _ (Nat.two_pow_pos _)]
        clear BS hcc hby hq hs
        generalize 2 ^ (7 - s) = tw at *
        go_wp2_with fail
        go_loop [5, 6] (fun wo i => ∃ j u : Nat, j ≤ s ∧ i = .int .i64 (j : Int) ∧ wo = .int .u8 (u : Int) ∧ u ≤ 128 ∧ Hid (u = 128 / 2 ^ j)) (fun _ i => s - (intOf i).toNat)
        case atStart => exact ⟨0, 128, Nat.zero_le _, rfl, rfl, Nat.le_refl _, rfl⟩
        case round =>
          obtain ⟨j, u, hj, rfl, rfl, hub, hu⟩ := hrel
          by_cases hjs : j < s
          · have hj1 : (j : Int) < (s : Int) := by omega
            have hu2 : Hid (u / 2 = 128 / 2 ^ (j + 1)) := by
              show _ = _
              rw [hu.out, Nat.div_div_eq_div_mul, ← Nat.pow_succ]
            go_wp2_with fail
            go_round
            case rel => exact ⟨j + 1, u / 2, by omega, by go_num, u8 (by omega), by omega, hu2⟩
            case measure => simp [intOf]; omega
          · obtain rfl : s = j := by omega
            obtain rfl : u = tw := by rw [hu.out]; exact hfin.out
            have ez : (cc : Int) + (u : Int) = ((cc + u : Nat) : Int) := by omega
            have ez2 : ((cc + u : Nat) : Int) % 256 = ((cc + u : Nat) : Int) := by omega
            generalize cc + u = z at *
            go_wp2_with fail
            go_roundw
            case rel => exact ⟨k + 1, l.set q (z : Int), by omega, by go_num, hl2, hnum2, ON, BN⟩
            case measure => simp [intOf]; omega
    · obtain rfl : n = k := by omega
      have HH : Hid (Holds l (numB L) n) := by
        have h1 := hnum.out
        rw [List.take_of_length_le (by have := hn.out; omega)] at h1
        have h2 := numB_lt L
        rw [hn.out] at h2
        refine ⟨hl.out.2, by rw [hl.out.1]; exact hN1, by rw [hl.out.1]; exact hN2, by rw [hl.out.1]; exact h1, h2⟩
      go_wp2_with fail
      go_ret
      exact ⟨l, by rw [hn.out]; exact HH.out, ret_of_owns O.out hl.out.2 B.out⟩

end Go.Proofs.YtmjjedbdedemcaaGreatDoor
