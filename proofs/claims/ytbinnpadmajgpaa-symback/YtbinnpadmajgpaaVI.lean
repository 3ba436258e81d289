/-
  The walks of vint.sizeOfFirst, join, unfold, Read, ReadInt.
-/
import Derived.Test.YtbinnpadmajgpaaVH
import Derived.Test.YtbinnpadmajgpaaVNumB
import Derived.BigQuiet
namespace Go.Proofs.Ytbinnpadmajgpaa.V
open Go.RowKit
set_option linter.unusedVariables false

theorem Has.cut {w : World} {a : Option Addr} {len cap : Nat} {l : List Int} (h : Has w a len cap l) (t : Nat) (ht : t ≤ len) : Has w (a.map (fun x => x.add t)) (len - t) (cap - t) (l.drop t) := by
  have h1 := h.hlen
  have h2 := h.le
  have h3 := h.capb
  refine ⟨by simp; omega, by omega, by omega, fun e => ?_, fun hp => ?_, fun x hx => h.bytes x (List.mem_of_mem_drop hx)⟩
  · have := h.nil (by cases a with | none => rfl | some x => simp at e); omega
  · obtain ⟨b, off, rfl, e2, e3⟩ := h.cells (by omega)
    refine ⟨b, off + t, by simp [add_plain], e2, fun i hi => ?_⟩
    have := e3 (t + i) (by omega)
    rw [show off + t + i = off + (t + i) by omega, this]
    simp [List.getD, List.getElem?_drop]
theorem Has.cut0 {w : World} {a : Option Addr} {len : Nat} {l : List Int} (t : Nat) (h : Has w a len t l) : Has w a 0 0 [] :=
  ⟨rfl, Nat.le_refl _, Nat.zero_le _, fun _ => rfl, fun h => by omega, fun x hx => by simp at hx⟩

theorem getD_bytes {l : List Int} (h : ∀ x ∈ l, 0 ≤ x ∧ x ≤ 255) (i : Nat) : 0 ≤ l.getD i 0 ∧ l.getD i 0 ≤ 255 := by
  rcases Nat.lt_or_ge i l.length with hi | hi
  · rw [List.getD, List.getElem?_eq_getElem hi]; exact h _ (List.getElem_mem hi)
  · rw [List.getD, List.getElem?_eq_none hi]; simp

set_option maxHeartbeats 400000 in
theorem first_any (w : World) (a : Option Addr) (len cap : Nat) (l : List Int) (h : Has w a len cap l) (hb : len ≤ 1099511627776) :
    Calls Try.prog 39 #[.slice a len cap] w fun e w' => e = .returned (.int .i64 (fs l)) ∧ w' = w := by
  have hl := h.hlen
  by_cases h0 : len = 0
  · subst h0
    obtain rfl : l = [] := List.eq_nil_of_length_eq_zero hl
    clear h hl
    go_enter Try.func39, Try.ntmps39
    go_wp2_with fail
    refine wp_loop_rounds 1 ?_
    rw [rounds_succ]
    go_wp2
    go_ret
    exact ⟨rfl, rfl⟩
  · obtain ⟨b, off, rfl, e2, hc⟩ := h.cells (by omega)
    have Hb : Hid (∀ x ∈ l, 0 ≤ x ∧ x ≤ 255) := h.bytes
    clear h
    go_enter Try.func39, Try.ntmps39
    go_wp2_with fail
    go_loop [7] (fun i => ∃ k : Nat, k ≤ len ∧ i = .int .i64 k ∧ (∀ j, j < k → 128 ≤ l.getD j 0)) (fun i => len - (intOf i).toNat)
    case atStart => exact ⟨0, by omega, rfl, fun j hj => by omega⟩
    case round =>
      obtain ⟨k, hk, rfl, hj⟩ := hrel
      have Hj : Hid (∀ j, j < k → 128 ≤ l.getD j 0) := hj
      clear hj
      by_cases hlt : k < len
      · have hck := hc k hlt
        obtain ⟨x, hx⟩ : ∃ x, x = l.getD k 0 := ⟨_, rfl⟩
        rw [← hx] at hck
        have Hx : Hid (x = l.getD k 0) := hx
        clear hx hc
        by_cases h128 : x < 128
        · go_wp2
          go_ret
          exact ⟨ret_int (by rw [fs_found l k (by omega) Hj.out (by rw [← Hx.out]; exact h128)]; omega), rfl⟩
        · go_wp2
          go_round
          case rel =>
            refine ⟨k + 1, by omega, by go_num, fun j hj => ?_⟩
            by_cases e : j = k
            · subst e; rw [← Hx.out]; omega
            · exact Hj.out j (by omega)
          case measure => simp [intOf]; omega
      · go_wp2
        go_ret
        exact ⟨ret_int (by rw [fs_none l (fun j hj => Hj.out j (by omega))]; rfl), rfl⟩

theorem and_low_all : ∀ i : Fin 256, bits BinOp.and IntKind.u8 ((i.val : Nat) : Int) 127 = ((i.val % 128 : Nat) : Int) := by decide +kernel
theorem and_low (x : Int) (h : 0 ≤ x ∧ x ≤ 255) : bits BinOp.and IntKind.u8 x 127 = (((x % 128).toNat : Nat) : Int) := by
  have := and_low_all ⟨x.toNat, by omega⟩
  simp only at this
  rw [show ((x.toNat : Nat) : Int) = x by omega] at this
  rw [this]
  omega
theorem dec_take_le (c : List Int) (j : Nat) : dec (c.take j) ≤ dec c := by
  have := dec_append (c.take j) (c.drop j)
  rw [List.take_append_drop] at this
  omega
theorem or_step (c : List Int) (k : Nat) (x : Int) (hk : k < c.length) (hx : x = c.getD k 0) (hxb : 0 ≤ x ∧ x ≤ 255) (hd : dec c < 18446744073709551616) :
    bits BinOp.or IntKind.u64 ((dec (c.take k) : Nat) : Int) (IntKind.u64.wrap (IntKind.u64.wrap (bits BinOp.and IntKind.u8 x 127) * 2 ^ (7 * k))) = ((dec (c.take (k + 1)) : Nat) : Int) := by
  have h1 := dec_take_succ c k hk
  have h2 := dec_take_le c (k + 1)
  have h3 := dec_lt (c.take k)
  rw [List.length_take, Nat.min_eq_left (Nat.le_of_lt hk)] at h3
  rw [← hx] at h1
  rw [and_low x hxb]
  generalize hm : (x % 128).toNat = m at *
  have hm128 : m < 128 := by omega
  have e128 : (128 : Nat) ^ k = 2 ^ (7 * k) := by rw [show (128 : Nat) = 2 ^ 7 from rfl, ← Nat.pow_mul]
  rw [e128] at h1 h3
  have hw1 : IntKind.u64.wrap ((m : Nat) : Int) = m := by rw [IntKind.wrap_u64]; omega
  rw [hw1]
  have hprod : ((m : Nat) : Int) * 2 ^ (7 * k) = ((2 ^ (7 * k) * m : Nat) : Int) := by
    rw [Int.natCast_mul, Int.natCast_pow, Int.mul_comm]; rfl
  rw [hprod]
  have hor : dec (c.take k) ||| 2 ^ (7 * k) * m = 2 ^ (7 * k) * m + dec (c.take k) := by
    rw [Nat.or_comm, ← Nat.two_pow_add_eq_or_of_lt h3]
  generalize 2 ^ (7 * k) * m = P at *
  have hw2 : IntKind.u64.wrap (P : Int) = (P : Int) := by
    rw [IntKind.wrap_u64]; omega
  rw [hw2, bits_or_u64_nat _ _ (by omega) (by omega), hor, h1, Nat.add_comm]
theorem ret_pair {n m : Int} {b : Bool} (h : n = m) : Ending.returned (.tuple #[.int .u64 n, .bool b]) = .returned (.tuple #[.int .u64 m, .bool b]) := by rw [h]

set_option maxHeartbeats 2000000 in
theorem join_good (w : World) (a : Option Addr) (len cap : Nat) (c : List Int) (h : Has w a len cap c) (hb : len ≤ 1099511627776) (hp : 0 < len) (hg : good c) :
    Calls Try.prog 40 #[.slice a len cap] w fun e w' => e = .returned (.tuple #[.int .u64 (dec c), .bool true]) ∧ Below w.heap.size w w' := by
  have hl := h.hlen
  obtain ⟨b, off, rfl, e2, hc⟩ := h.cells hp
  have Hb : Hid (∀ x ∈ c, 0 ≤ x ∧ x ≤ 255) := h.bytes
  obtain ⟨t, ht⟩ : ∃ t, t = top c := ⟨_, rfl⟩
  have hct : w.cell? ⟨b, off + (len - 1), none⟩ = some (.int .u8 t) := by rw [ht, hc _ (by omega)]; unfold top; rw [hl]
  have htb : 0 ≤ t ∧ t ≤ 255 := by rw [ht]; exact getD_bytes h.bytes _
  have hdb : Hid (dec c < 18446744073709551616) := dec_bound c hg (by rw [← ht]; exact htb.1) (List.ne_nil_of_length_pos (by omega))
  obtain ⟨g1, g2, g3⟩ := hg
  rw [← ht, hl] at g1 g3
  rw [hl] at g2
  have Ht : Hid (t = top c) := ht
  clear h ht
  go_enter Try.func40, Try.ntmps40
  go_wp2
  go_quiet (fail)
  have t2 : decide ((10 : Int) < len) = false := by simp; omega
  by_cases h1 : 1 < len
  · have t0 : decide ((1 : Int) < len) = true := by simp; omega
    have t1 : (t == 0) = false := by simp; omega
    by_cases h10 : len = 10
    · have t3 : ((len : Int) == 10) = true := by simp; omega
      have t4 : decide (1 < t) = false := by simp; omega
      have H10 : Hid (len = 10) := h10
      clear h10
      go_wp2_with fail
      go_loop [6, 37] (fun v i => ∃ k : Nat, k ≤ len ∧ i = .int .i64 k ∧ v = .int .u64 (dec (c.take k))) (fun _ i => len - (intOf i).toNat)
      case atStart => exact ⟨0, by omega, rfl, by simp [dec]⟩
      case round =>
        obtain ⟨k, hk, rfl, rfl⟩ := hrel
        by_cases hlt : k < len
        · have hck := hc k hlt
          obtain ⟨x, hx⟩ : ∃ x, x = c.getD k 0 := ⟨_, rfl⟩
          have hxb : 0 ≤ x ∧ x ≤ 255 := by rw [hx]; exact getD_bytes Hb.out k
          rw [← hx] at hck
          have Hx : Hid (x = c.getD k 0) := hx
          clear hx hc
          go_wp2
          go_round
          case rel => exact ⟨k + 1, by omega, by go_num, by rw [or_step c k x (by omega) Hx.out hxb hdb.out]⟩
          case measure => simp [intOf]; omega
        · go_wp2
          go_ret2
          exact ⟨ret_pair (by rw [List.take_of_length_le (by omega)]), below_drewN (Below.refl _ _) nq⟩
    · have t3 : ((len : Int) == 10) = false := by simp; omega
      go_wp2_with fail
      go_loop [6, 37] (fun v i => ∃ k : Nat, k ≤ len ∧ i = .int .i64 k ∧ v = .int .u64 (dec (c.take k))) (fun _ i => len - (intOf i).toNat)
      case atStart => exact ⟨0, by omega, rfl, by simp [dec]⟩
      case round =>
        obtain ⟨k, hk, rfl, rfl⟩ := hrel
        by_cases hlt : k < len
        · have hck := hc k hlt
          obtain ⟨x, hx⟩ : ∃ x, x = c.getD k 0 := ⟨_, rfl⟩
          have hxb : 0 ≤ x ∧ x ≤ 255 := by rw [hx]; exact getD_bytes Hb.out k
          rw [← hx] at hck
          have Hx : Hid (x = c.getD k 0) := hx
          clear hx hc
          go_wp2
          go_round
          case rel => exact ⟨k + 1, by omega, by go_num, by rw [or_step c k x (by omega) Hx.out hxb hdb.out]⟩
          case measure => simp [intOf]; omega
        · go_wp2
          go_ret2
          exact ⟨ret_pair (by rw [List.take_of_length_le (by omega)]), below_drewN (Below.refl _ _) nq⟩
  · have t0 : decide ((1 : Int) < len) = false := by simp; omega
    have t3 : ((len : Int) == 10) = false := by simp; omega
    go_wp2_with fail
    go_loop [6, 37] (fun v i => ∃ k : Nat, k ≤ len ∧ i = .int .i64 k ∧ v = .int .u64 (dec (c.take k))) (fun _ i => len - (intOf i).toNat)
    case atStart => exact ⟨0, by omega, rfl, by simp [dec]⟩
    case round =>
      obtain ⟨k, hk, rfl, rfl⟩ := hrel
      by_cases hlt : k < len
      · have hck := hc k hlt
        obtain ⟨x, hx⟩ : ∃ x, x = c.getD k 0 := ⟨_, rfl⟩
        have hxb : 0 ≤ x ∧ x ≤ 255 := by rw [hx]; exact getD_bytes Hb.out k
        rw [← hx] at hck
        have Hx : Hid (x = c.getD k 0) := hx
        clear hx hc
        go_wp2
        go_round
        case rel => exact ⟨k + 1, by omega, by go_num, by rw [or_step c k x (by omega) Hx.out hxb hdb.out]⟩
        case measure => simp [intOf]; omega
      · go_wp2
        go_ret2
        exact ⟨ret_pair (by rw [List.take_of_length_le (by omega)]), below_drewN (Below.refl _ _) nq⟩

set_option maxHeartbeats 2000000 in
theorem join_bad (w : World) (a : Option Addr) (len cap : Nat) (c : List Int) (h : Has w a len cap c) (hb : len ≤ 1099511627776) (hp : 0 < len) (hg : ¬ good c) :
    Calls Try.prog 40 #[.slice a len cap] w fun e w' => e = .returned (.tuple #[.int .u64 0, .bool false]) ∧ Below w.heap.size w w' := by
  have hl := h.hlen
  obtain ⟨b, off, rfl, e2, hc⟩ := h.cells hp
  have Hb : Hid (∀ x ∈ c, 0 ≤ x ∧ x ≤ 255) := h.bytes
  obtain ⟨t, ht⟩ : ∃ t, t = top c := ⟨_, rfl⟩
  have hct : w.cell? ⟨b, off + (len - 1), none⟩ = some (.int .u8 t) := by rw [ht, hc _ (by omega)]; unfold top; rw [hl]
  have htb : 0 ≤ t ∧ t ≤ 255 := by rw [ht]; exact getD_bytes h.bytes _
  have hg' : (1 < len ∧ t = 0) ∨ (¬ (1 < len ∧ t = 0) ∧ 10 < len) ∨ (¬ (1 < len ∧ t = 0) ∧ len = 10 ∧ 1 < t) := by
    unfold good at hg
    rw [← ht, hl] at hg
    omega
  have Ht : Hid (t = top c) := ht
  clear h ht hg
  go_enter Try.func40, Try.ntmps40
  go_wp2
  go_quiet (fail)
  rcases hg' with ⟨h1, h2⟩ | ⟨h1, h2⟩ | ⟨h1, h2, h3⟩
  · have t0 : decide ((1 : Int) < len) = true := by simp; omega
    have t1 : (t == 0) = true := by simp; omega
    clear h2
    go_wp2
    go_ret2
    exact ⟨rfl, below_drewN (Below.refl _ _) nq⟩
  · have t0 : decide ((1 : Int) < len) = true := by simp; omega
    have t1 : (t == 0) = false := by simp; omega
    have t2 : decide ((10 : Int) < len) = true := by simp; omega
    go_wp2
    go_ret2
    exact ⟨rfl, below_drewN (Below.refl _ _) nq⟩
  · have t0 : decide ((1 : Int) < len) = true := by simp; omega
    have t1 : (t == 0) = false := by simp; omega
    have t2 : decide ((10 : Int) < len) = false := by simp; omega
    have t3 : ((len : Int) == 10) = true := by simp; omega
    have t4 : decide (1 < t) = true := by simp; omega
    clear h2
    go_wp2
    go_ret2
    exact ⟨rfl, below_drewN (Below.refl _ _) nq⟩
end Go.Proofs.Ytbinnpadmajgpaa.V
