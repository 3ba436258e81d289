/-
  Numbers as bytes, and how they are read.
-/
import Derived.Test.YtmjjedbdedemcaaGreatDoorVA
import Derived.BigQuiet
import Derived.Laws.BytesArg
namespace Go.Proofs.YtmjjedbdedemcaaGreatDoor
open Go.RowKit
set_option linter.unusedVariables false

/-- What the walk is told of a slice of integers that came in. -/
def IsRow (k : IntKind) (w : World) (a : Option Addr) (len cap : Nat) (zs : List Int) : Prop :=
  (a = none ∧ len = 0 ∧ cap = 0 ∧ zs = []) ∨
  ∃ x, a = some x ∧ len ≤ cap ∧ cap ≤ maxLen ∧ zs.length = cap ∧ (∀ i, i < zs.length → w.cell? (x.add i) = some (.int k (zs.getD i 0))) ∧ ∀ n ∈ zs, (Lit.int k n).wf = true

theorem has_of_row {w : World} {a : Option Addr} {len cap : Nat} {zs : List Int} (h : IsRow .u8 w a len cap zs) : Has w a len cap (zs.take len) := by
  rcases h with ⟨rfl, rfl, rfl, rfl⟩ | ⟨x, rfl, hl, hm, hz, hcell, hwz⟩
  · exact has_nil w
  · refine ⟨by simp; omega, hl, hm, (fun h => by cases h), fun hp => ?_, fun n hn => ?_⟩
    · obtain ⟨b, off, spot⟩ := x
      have hc := hcell 0 (by omega)
      have hspot : spot = none := by simpa [Addr.add] using World.cell?_spot hc
      subst hspot
      refine ⟨b, off, rfl, ?_, fun i hi => ?_⟩
      · have := World.block_lt_of_cell? w _ hc
        rwa [add_plain] at this
      · have := hcell i (by omega)
        rw [add_plain] at this
        rw [this]
        simp [List.getD, hi]
    · have := hwz n (List.mem_of_mem_take hn)
      simp [Lit.wf, IntKind.min, IntKind.max, IntKind.signed, IntKind.bits] at this
      omega

theorem wf_u64V {a : Int} (w0 : (Lit.int .u64 a).wf = true) : 0 ≤ a ∧ a < 18446744073709551616 := by simp [Lit.wf, IntKind.min, IntKind.max, IntKind.signed, IntKind.bits] at w0; omega
theorem wf_i64V {a : Int} (w0 : (Lit.int .i64 a).wf = true) : -9223372036854775808 ≤ a ∧ a ≤ 9223372036854775807 := by simp [Lit.wf, IntKind.min, IntKind.max, IntKind.signed, IntKind.bits] at w0; omega
theorem Has.cut {w : World} {a : Option Addr} {len cap : Nat} {l : List Int} (h : Has w a len cap l) (t : Nat) (ht : t ≤ len) : Has w (a.map (fun x => x.add t)) (len - t) (cap - t) (l.drop t) := by
  have h1 := h.hlen
  have h2 := h.le
  have h3 := h.capb
  refine ⟨by simp; omega, by omega, by omega, fun e => ?_, fun hp => ?_, fun x hx => h.bytes x (List.mem_of_mem_drop hx)⟩
  · have := h.nil (by cases a with | none => rfl | some x => simp at e); omega
  · obtain ⟨b, off, rfl, e2, e3⟩ := h.cells (by omega)
    refine ⟨b, off + t, by simp [add_plain], e2, fun i hi => ?_⟩
    have := e3 (t + i) (by omega)
    rw [show off + t + i = off + (t + i) by omega, this]
    simp [List.getD, List.getElem?_drop]
theorem Has.cut0 {w : World} {a : Option Addr} {len : Nat} {l : List Int} (t : Nat) (h : Has w a len t l) : Has w a 0 0 [] :=
  ⟨rfl, Nat.le_refl _, Nat.zero_le _, fun _ => rfl, fun h => by omega, fun x hx => by simp at hx⟩

theorem getD_bytes {l : List Int} (h : ∀ x ∈ l, 0 ≤ x ∧ x ≤ 255) (i : Nat) : 0 ≤ l.getD i 0 ∧ l.getD i 0 ≤ 255 := by
  rcases Nat.lt_or_ge i l.length with hi | hi
  · rw [List.getD, List.getElem?_eq_getElem hi]; exact h _ (List.getElem_mem hi)
  · rw [List.getD, List.getElem?_eq_none hi]; simp

set_option maxHeartbeats 400000 in
theorem first_any (w : World) (a : Option Addr) (len cap : Nat) (l : List Int) (h : Has w a len cap l) (hb : len ≤ 1099511627776) :
    Calls Tryz.prog 75 #[.slice a len cap] w fun e w' => e = .returned (.int .i64 (fs l)) ∧ w' = w := by
  have hl := h.hlen
  by_cases h0 : len = 0
  · subst h0
    obtain rfl : l = [] := List.eq_nil_of_length_eq_zero hl
    clear h hl
    go_enter Tryz.func75, Tryz.ntmps75
    go_wp2_with fail
    refine wp_loop_rounds 1 ?_
    rw [rounds_succ]
    go_wp2
    go_ret
    exact ⟨rfl, rfl⟩
  · obtain ⟨b, off, rfl, e2, hc⟩ := h.cells (by omega)
    have Hb : Hid (∀ x ∈ l, 0 ≤ x ∧ x ≤ 255) := h.bytes
    clear h
    go_enter Tryz.func75, Tryz.ntmps75
    go_wp2_with fail
    go_loop [7] (fun i => ∃ k : Nat, k ≤ len ∧ i = .int .i64 k ∧ (∀ j, j < k → 128 ≤ l.getD j 0)) (fun i => len - (intOf i).toNat)
    case atStart => exact ⟨0, by omega, rfl, fun j hj => by omega⟩
    case round =>
      obtain ⟨k, hk, rfl, hj⟩ := hrel
      have Hj : Hid (∀ j, j < k → 128 ≤ l.getD j 0) := hj
      clear hj
      by_cases hlt : k < len
      · have hck := hc k hlt
        obtain ⟨x, hx⟩ : ∃ x, x = l.getD k 0 := ⟨_, rfl⟩
        rw [← hx] at hck
        have Hx : Hid (x = l.getD k 0) := hx
        clear hx hc
        by_cases h128 : x < 128
        · go_wp2
          go_ret
          exact ⟨ret_int (by rw [fs_found l k (by omega) Hj.out (by rw [← Hx.out]; exact h128)]; omega), rfl⟩
        · go_wp2
          go_round
          case rel =>
            refine ⟨k + 1, by omega, by go_num, fun j hj => ?_⟩
            by_cases e : j = k
            · subst e; rw [← Hx.out]; omega
            · exact Hj.out j (by omega)
          case measure => simp [intOf]; omega
      · go_wp2
        go_ret
        exact ⟨ret_int (by rw [fs_none l (fun j hj => Hj.out j (by omega))]; rfl), rfl⟩

theorem and_low_all : ∀ i : Fin 256, bits BinOp.and IntKind.u8 ((i.val : Nat) : Int) 127 = ((i.val % 128 : Nat) : Int) := by decide +kernel
theorem and_low (x : Int) (h : 0 ≤ x ∧ x ≤ 255) : bits BinOp.and IntKind.u8 x 127 = (((x % 128).toNat : Nat) : Int) := by
  have := and_low_all ⟨x.toNat, by omega⟩
  simp only at this
  rw [show ((x.toNat : Nat) : Int) = x by omega] at this
  rw [this]
  omega
theorem dec_take_le (c : List Int) (j : Nat) : dec (c.take j) ≤ dec c := by
  have := dec_append (c.take j) (c.drop j)
  rw [List.take_append_drop] at this
  omega
theorem or_step (c : List Int) (k : Nat) (x : Int) (hk : k < c.length) (hx : x = c.getD k 0) (hxb : 0 ≤ x ∧ x ≤ 255) (hd : dec c < 18446744073709551616) :
    bits BinOp.or IntKind.u64 ((dec (c.take k) : Nat) : Int) (IntKind.u64.wrap (IntKind.u64.wrap (bits BinOp.and IntKind.u8 x 127) * 2 ^ (7 * k))) = ((dec (c.take (k + 1)) : Nat) : Int) := by
  have h1 := dec_take_succ c k hk
  have h2 := dec_take_le c (k + 1)
  have h3 := dec_lt (c.take k)
  rw [List.length_take, Nat.min_eq_left (Nat.le_of_lt hk)] at h3
  rw [← hx] at h1
  rw [and_low x hxb]
  generalize hm : (x % 128).toNat = m at *
  have hm128 : m < 128 := by omega
  have e128 : (128 : Nat) ^ k = 2 ^ (7 * k) := by rw [show (128 : Nat) = 2 ^ 7 from rfl, ← Nat.pow_mul]
  rw [e128] at h1 h3
  have hw1 : IntKind.u64.wrap ((m : Nat) : Int) = m := by rw [IntKind.wrap_u64]; omega
  rw [hw1]
  have hprod : ((m : Nat) : Int) * 2 ^ (7 * k) = ((2 ^ (7 * k) * m : Nat) : Int) := by
    rw [Int.natCast_mul, Int.natCast_pow, Int.mul_comm]; rfl
  rw [hprod]
  have hor : dec (c.take k) ||| 2 ^ (7 * k) * m = 2 ^ (7 * k) * m + dec (c.take k) := by
    rw [Nat.or_comm, ← Nat.two_pow_add_eq_or_of_lt h3]
  generalize 2 ^ (7 * k) * m = P at *
  have hw2 : IntKind.u64.wrap (P : Int) = (P : Int) := by
    rw [IntKind.wrap_u64]; omega
  rw [hw2, bits_or_u64_nat _ _ (by omega) (by omega), hor, h1, Nat.add_comm]
theorem ret_pair {n m : Int} {b : Bool} (h : n = m) : Ending.returned (.tuple #[.int .u64 n, .bool b]) = .returned (.tuple #[.int .u64 m, .bool b]) := by rw [h]

set_option maxHeartbeats 2000000 in
theorem join_good (w : World) (a : Option Addr) (len cap : Nat) (c : List Int) (h : Has w a len cap c) (hb : len ≤ 1099511627776) (hp : 0 < len) (hg : good c) :
    Calls Tryz.prog 76 #[.slice a len cap] w fun e w' => e = .returned (.tuple #[.int .u64 (dec c), .bool true]) ∧ Below w.heap.size w w' := by
  have hl := h.hlen
  obtain ⟨b, off, rfl, e2, hc⟩ := h.cells hp
  have Hb : Hid (∀ x ∈ c, 0 ≤ x ∧ x ≤ 255) := h.bytes
  obtain ⟨t, ht⟩ : ∃ t, t = top c := ⟨_, rfl⟩
  have hct : w.cell? ⟨b, off + (len - 1), none⟩ = some (.int .u8 t) := by rw [ht, hc _ (by omega)]; unfold top; rw [hl]
  have htb : 0 ≤ t ∧ t ≤ 255 := by rw [ht]; exact getD_bytes h.bytes _
  have hdb : Hid (dec c < 18446744073709551616) := dec_bound c hg (by rw [← ht]; exact htb.1) (List.ne_nil_of_length_pos (by omega))
  obtain ⟨g1, g2, g3⟩ := hg
  rw [← ht, hl] at g1 g3
  rw [hl] at g2
  have Ht : Hid (t = top c) := ht
  clear h ht
  go_enter Tryz.func76, Tryz.ntmps76
  go_wp2
  go_quiet (fail)
  have t2 : decide ((10 : Int) < len) = false := by simp; omega
  by_cases h1 : 1 < len
  · have t0 : decide ((1 : Int) < len) = true := by simp; omega
    have t1 : (t == 0) = false := by simp; omega
    by_cases h10 : len = 10
    · have t3 : ((len : Int) == 10) = true := by simp; omega
      have t4 : decide (1 < t) = false := by simp; omega
      have H10 : Hid (len = 10) := h10
      clear h10
      go_wp2_with fail
      go_loop [6, 37] (fun v i => ∃ k : Nat, k ≤ len ∧ i = .int .i64 k ∧ v = .int .u64 (dec (c.take k))) (fun _ i => len - (intOf i).toNat)
      case atStart => exact ⟨0, by omega, rfl, by simp [dec]⟩
      case round =>
        obtain ⟨k, hk, rfl, rfl⟩ := hrel
        by_cases hlt : k < len
        · have hck := hc k hlt
          obtain ⟨x, hx⟩ : ∃ x, x = c.getD k 0 := ⟨_, rfl⟩
          have hxb : 0 ≤ x ∧ x ≤ 255 := by rw [hx]; exact getD_bytes Hb.out k
          rw [← hx] at hck
          have Hx : Hid (x = c.getD k 0) := hx
          clear hx hc
          go_wp2
          go_round
          case rel => exact ⟨k + 1, by omega, by go_num, by rw [or_step c k x (by omega) Hx.out hxb hdb.out]⟩
          case measure => simp [intOf]; omega
        · go_wp2
          go_ret2
          exact ⟨ret_pair (by rw [List.take_of_length_le (by omega)]), below_drewN (Below.refl _ _) nq⟩
    · have t3 : ((len : Int) == 10) = false := by simp; omega
      go_wp2_with fail
      go_loop [6, 37] (fun v i => ∃ k : Nat, k ≤ len ∧ i = .int .i64 k ∧ v = .int .u64 (dec (c.take k))) (fun _ i => len - (intOf i).toNat)
      case atStart => exact ⟨0, by omega, rfl, by simp [dec]⟩
      case round =>
        obtain ⟨k, hk, rfl, rfl⟩ := hrel
        by_cases hlt : k < len
        · have hck := hc k hlt
          obtain ⟨x, hx⟩ : ∃ x, x = c.getD k 0 := ⟨_, rfl⟩
          have hxb : 0 ≤ x ∧ x ≤ 255 := by rw [hx]; exact getD_bytes Hb.out k
          rw [← hx] at hck
          have Hx : Hid (x = c.getD k 0) := hx
          clear hx hc
          go_wp2
          go_round
          case rel => exact ⟨k + 1, by omega, by go_num, by rw [or_step c k x (by omega) Hx.out hxb hdb.out]⟩
          case measure => simp [intOf]; omega
        · go_wp2
          go_ret2
          exact ⟨ret_pair (by rw [List.take_of_length_le (by omega)]), below_drewN (Below.refl _ _) nq⟩
  · have t0 : decide ((1 : Int) < len) = false := by simp; omega
    have t3 : ((len : Int) == 10) = false := by simp; omega
    go_wp2_with fail
    go_loop [6, 37] (fun v i => ∃ k : Nat, k ≤ len ∧ i = .int .i64 k ∧ v = .int .u64 (dec (c.take k))) (fun _ i => len - (intOf i).toNat)
    case atStart => exact ⟨0, by omega, rfl, by simp [dec]⟩
    case round =>
      obtain ⟨k, hk, rfl, rfl⟩ := hrel
      by_cases hlt : k < len
      · have hck := hc k hlt
        obtain ⟨x, hx⟩ : ∃ x, x = c.getD k 0 := ⟨_, rfl⟩
        have hxb : 0 ≤ x ∧ x ≤ 255 := by rw [hx]; exact getD_bytes Hb.out k
        rw [← hx] at hck
        have Hx : Hid (x = c.getD k 0) := hx
        clear hx hc
        go_wp2
        go_round
        case rel => exact ⟨k + 1, by omega, by go_num, by rw [or_step c k x (by omega) Hx.out hxb hdb.out]⟩
        case measure => simp [intOf]; omega
      · go_wp2
        go_ret2
        exact ⟨ret_pair (by rw [List.take_of_length_le (by omega)]), below_drewN (Below.refl _ _) nq⟩

set_option maxHeartbeats 2000000 in
theorem join_bad (w : World) (a : Option Addr) (len cap : Nat) (c : List Int) (h : Has w a len cap c) (hb : len ≤ 1099511627776) (hp : 0 < len) (hg : ¬ good c) :
    Calls Tryz.prog 76 #[.slice a len cap] w fun e w' => e = .returned (.tuple #[.int .u64 0, .bool false]) ∧ Below w.heap.size w w' := by
  have hl := h.hlen
  obtain ⟨b, off, rfl, e2, hc⟩ := h.cells hp
  have Hb : Hid (∀ x ∈ c, 0 ≤ x ∧ x ≤ 255) := h.bytes
  obtain ⟨t, ht⟩ : ∃ t, t = top c := ⟨_, rfl⟩
  have hct : w.cell? ⟨b, off + (len - 1), none⟩ = some (.int .u8 t) := by rw [ht, hc _ (by omega)]; unfold top; rw [hl]
  have htb : 0 ≤ t ∧ t ≤ 255 := by rw [ht]; exact getD_bytes h.bytes _
  have hg' : (1 < len ∧ t = 0) ∨ (¬ (1 < len ∧ t = 0) ∧ 10 < len) ∨ (¬ (1 < len ∧ t = 0) ∧ len = 10 ∧ 1 < t) := by
    unfold good at hg
    rw [← ht, hl] at hg
    omega
  have Ht : Hid (t = top c) := ht
  clear h ht hg
  go_enter Tryz.func76, Tryz.ntmps76
  go_wp2
  go_quiet (fail)
  rcases hg' with ⟨h1, h2⟩ | ⟨h1, h2⟩ | ⟨h1, h2, h3⟩
  · have t0 : decide ((1 : Int) < len) = true := by simp; omega
    have t1 : (t == 0) = true := by simp; omega
    clear h2
    go_wp2
    go_ret2
    exact ⟨rfl, below_drewN (Below.refl _ _) nq⟩
  · have t0 : decide ((1 : Int) < len) = true := by simp; omega
    have t1 : (t == 0) = false := by simp; omega
    have t2 : decide ((10 : Int) < len) = true := by simp; omega
    go_wp2
    go_ret2
    exact ⟨rfl, below_drewN (Below.refl _ _) nq⟩
  · have t0 : decide ((1 : Int) < len) = true := by simp; omega
    have t1 : (t == 0) = false := by simp; omega
    have t2 : decide ((10 : Int) < len) = false := by simp; omega
    have t3 : ((len : Int) == 10) = true := by simp; omega
    have t4 : decide (1 < t) = true := by simp; omega
    clear h2
    go_wp2
    go_ret2
    exact ⟨rfl, below_drewN (Below.refl _ _) nq⟩
set_option maxHeartbeats 1000000 in
theorem Read_short (w : World) (a : Option Addr) (len cap : Nat) (l : List Int) (t : Nat) (h : Has w a len cap l) (hb : len ≤ 1099511627776) (ht : t ≤ len) (hf : fs (l.drop t) = 0) :
    Calls Tryz.prog 55 #[.slice a len cap, .int .i64 t] w fun e w' => e = .returned (.tuple #[.int .u64 0, .int .i64 0, .int .i64 7]) ∧ Below w.heap.size w w' := by
  have h2 := h.le
  have h3 := h.capb
  unfold maxLen at h3
  have ht' : (t : Int) ≤ len := by omega
  by_cases hct : cap = t
  · subst hct
    have HF := hide (first_any w a 0 0 [] (h.cut0 cap) (by omega))
    clear h hf
    go_enter Tryz.func55, Tryz.ntmps55
    go_wp2_with (go_at_call 75; refine HF.out.mono ?_; rintro e w' ⟨rfl, rfl⟩)
    go_ret3
    exact ⟨rfl, Below.refl _ _⟩
  · have F := first_any w _ _ _ _ (h.cut t ht) (by omega)
    rw [hf] at F
    have HF := hide F
    clear F h hf
    go_enter Tryz.func55, Tryz.ntmps55
    go_wp2_with (go_at_call 75; refine HF.out.mono ?_; rintro e w' ⟨rfl, rfl⟩)
    go_ret3
    exact ⟨rfl, Below.refl _ _⟩

set_option maxHeartbeats 1000000 in
theorem Read_ok (w : World) (a : Option Addr) (len cap : Nat) (l : List Int) (t : Nat) (h : Has w a len cap l) (hb : len ≤ 1099511627776) (ht : t ≤ len) (k : Nat) (hf : fs (l.drop t) = k + 1) (hg : good ((l.drop t).take (k + 1))) :
    Calls Tryz.prog 55 #[.slice a len cap, .int .i64 t] w fun e w' => e = .returned (.tuple #[.int .u64 (dec ((l.drop t).take (k + 1))), .int .i64 ((t : Int) + ((k : Int) + 1)), .int .i64 0]) ∧ Below w.heap.size w w' := by
  have h2 := h.le
  have h3 := h.capb
  unfold maxLen at h3
  have ht' : (t : Int) ≤ len := by omega
  have hk : t + (k + 1) ≤ len := by
    have := fs_le (l.drop t)
    rw [List.length_drop, h.hlen, hf] at this
    omega
  have hct : ¬ cap = t := by omega
  have F := first_any w _ _ _ _ (h.cut t ht) (by omega)
  have J := join_good w _ _ _ _ ((h.cut t ht).front (k + 1) (by omega)) (by omega) (by omega) hg
  rw [hf] at F
  have HF := hide F
  have HJ := hide J
  clear F h hf J hg
  go_enter Tryz.func55, Tryz.ntmps55
  go_wp2_with (first
    | (go_at_call 75; refine HF.out.mono ?_; rintro e w' ⟨rfl, rfl⟩)
    | (go_at_call 76; refine HJ.out.mono ?_; rintro e w1 ⟨rfl, B1⟩))
  go_ret3
  exact ⟨rfl, B1⟩

set_option maxHeartbeats 1000000 in
theorem Read_vint (w : World) (a : Option Addr) (len cap : Nat) (l : List Int) (t : Nat) (h : Has w a len cap l) (hb : len ≤ 1099511627776) (ht : t ≤ len) (k : Nat) (hf : fs (l.drop t) = k + 1) (hg : ¬ good ((l.drop t).take (k + 1))) :
    Calls Tryz.prog 55 #[.slice a len cap, .int .i64 t] w fun e w' => e = .returned (.tuple #[.int .u64 0, .int .i64 0, .int .i64 10]) ∧ Below w.heap.size w w' := by
  have h2 := h.le
  have h3 := h.capb
  unfold maxLen at h3
  have ht' : (t : Int) ≤ len := by omega
  have hk : t + (k + 1) ≤ len := by
    have := fs_le (l.drop t)
    rw [List.length_drop, h.hlen, hf] at this
    omega
  have hct : ¬ cap = t := by omega
  have F := first_any w _ _ _ _ (h.cut t ht) (by omega)
  have J := join_bad w _ _ _ _ ((h.cut t ht).front (k + 1) (by omega)) (by omega) (by omega) hg
  rw [hf] at F
  have HF := hide F
  have HJ := hide J
  clear F h hf J hg
  go_enter Tryz.func55, Tryz.ntmps55
  go_wp2_with (first
    | (go_at_call 75; refine HF.out.mono ?_; rintro e w' ⟨rfl, rfl⟩)
    | (go_at_call 76; refine HJ.out.mono ?_; rintro e w1 ⟨rfl, B1⟩))
  go_ret3
  exact ⟨rfl, B1⟩

/-- A slice, a place and the number 0 come out. -/
def Ret3 (w : World) (l : List Int) (n : Int) (e : Ending) (w' : World) : Prop :=
  ∃ a m cap, e = .returned (.tuple #[.slice a m cap, .int .i64 n, .int .i64 0]) ∧ Has w' a m cap l ∧ Below w.heap.size w w'

theorem drop_len (lb m : List Int) : (lb ++ m).drop lb.length = m := by simp
theorem fs_enc (n : Nat) (hn : n < 18446744073709551616) (r : List Int) : fs (enc n ++ r) = (sz n - 1) + 1 := by
  have := fs_encF 9 n r (by omega)
  have h1 := sz_range n
  unfold enc
  rw [this]
  unfold sz at h1 ⊢
  omega
theorem take_enc (n : Nat) (r : List Int) : (enc n ++ r).take (sz n - 1 + 1) = enc n := by
  have h1 := sz_range n
  rw [show sz n - 1 + 1 = (enc n).length by rw [enc_length]; omega]
  simp

theorem read_enc (w : World) (a : Option Addr) (len cap : Nat) (lb : List Int) (n : Nat) (r : List Int) (h : Has w a len cap (lb ++ (enc n ++ r))) (hb : len ≤ 1099511627776) (hn : n < 18446744073709551616) (t : Nat) (ht : lb.length = t) :
    Calls Tryz.prog 55 #[.slice a len cap, .int .i64 t] w fun e w' => e = .returned (.tuple #[.int .u64 n, .int .i64 ((t : Int) + sz n), .int .i64 0]) ∧ Below w.heap.size w w' := by
  have hl := h.hlen
  have h1 := sz_range n
  have e0 : (lb ++ (enc n ++ r)).drop t = enc n ++ r := by rw [← ht]; exact drop_len _ _
  have R := Read_ok w a len cap _ t h hb (by rw [← hl, List.length_append]; omega) (sz n - 1) (by rw [e0]; exact fs_enc n hn r) (by rw [e0, take_enc]; exact good_enc n hn)
  rw [e0, take_enc, show dec (enc n) = n from dec_encF 9 n (by omega), show ((t : Int) + (((sz n - 1 : Nat) : Int) + 1)) = (t : Int) + sz n by omega] at R
  exact R
open Go

abbrev Lb := ByteArray × ByteArray
def nums (s : ByteArray) : List Int := s.data.toList.map fun x => (x.toNat : Int)
theorem nums_len (s : ByteArray) : (nums s).length = s.size := by unfold nums; rw [List.length_map, Array.length_toList]; rfl
theorem nums_bytes (s : ByteArray) : ∀ x ∈ nums s, 0 ≤ x ∧ x ≤ 255 := by
  intro x hx
  simp only [nums, List.mem_map] at hx
  obtain ⟨b, _, rfl⟩ := hx
  have := b.toNat_lt
  omega
theorem str_nums (s : ByteArray) : strOfNums (nums s) = s := by
  unfold strOfNums nums
  rw [List.map_map]
  have : ((fun n : Int => UInt8.ofNat n.toNat) ∘ fun x : UInt8 => (x.toNat : Int)) = id := by
    funext x; simp
  rw [this, List.map_id]
theorem nums_str (l : List Int) (h : ∀ x ∈ l, 0 ≤ x ∧ x ≤ 255) : nums (strOfNums l) = l := by
  unfold strOfNums nums
  simp only [List.map_map]
  conv => rhs; rw [← List.map_id l]
  apply List.map_congr_left
  intro x hx
  have := h x hx
  simp only [Function.comp, id]
  rw [UInt8.toNat_ofNat_of_lt' (by simp [UInt8.size]; omega)]
  omega

def pb (x : List Int) : List Int := enc x.length ++ x
def lb (x : Lb) : List Int := pb (nums x.1) ++ pb (nums x.2)
def lbs : List Lb → List Int
  | [] => []
  | x :: r => lb x ++ lbs r
def bytesL (R : List Lb) : List Int := enc R.length ++ lbs R
theorem lbs_snoc : ∀ (R : List Lb) (x : Lb), lbs (R ++ [x]) = lbs R ++ lb x
  | [], x => by simp [lbs]
  | y :: r, x => by simp only [List.cons_append, lbs, lbs_snoc r x, List.append_assoc]

open Classical in
noncomputable def rn (t : List Int) : Option (Nat × Nat) := if fs t = 0 then none else if good (t.take (fs t)) then some (dec (t.take (fs t)), fs t) else none
noncomputable def rb (t : List Int) : Option (List Int × Nat) := match rn t with
  | none => none
  | some (n, k) => if n ≤ 65536 ∧ k + n ≤ t.length then some ((t.drop k).take n, k + n) else none
noncomputable def rl (t : List Int) : Option (Lb × Nat) := match rb t with
  | none => none
  | some (x, k) => match rb (t.drop k) with
    | none => none
    | some (y, m) => some ((strOfNums x, strOfNums y), k + m)
noncomputable def rls : Nat → List Int → Option (List Lb × Nat)
  | 0, _ => some ([], 0)
  | n + 1, t => match rl t with
    | none => none
    | some (x, k) => match rls n (t.drop k) with
      | none => none
      | some (X, m) => some (x :: X, k + m)

theorem rn_enc (n : Nat) (r : List Int) (h : n < 18446744073709551616) : rn (enc n ++ r) = some (n, (enc n).length) := by
  have h1 : fs (enc n ++ r) = (enc n).length := by rw [enc_length]; exact fs_encF 9 n r (by omega)
  have h2 : (enc n ++ r).take (fs (enc n ++ r)) = enc n := by rw [h1, List.take_left']; rfl
  have h3 := (sz_range n).1
  unfold rn
  rw [if_neg (by rw [h1, enc_length]; omega), h2, if_pos (good_enc n h), h1]
  rw [show dec (enc n) = n from dec_encF 9 n (by omega)]
theorem enc_rn {t : List Int} (hb : ∀ x ∈ t, 0 ≤ x ∧ x ≤ 255) {n k : Nat} (h : rn t = some (n, k)) : t.take k = enc n ∧ k ≤ t.length ∧ 1 ≤ k ∧ n < 18446744073709551616 := by
  unfold rn at h
  split at h
  · cases h
  · rename_i h0
    split at h
    · rename_i hg
      simp only [Option.some.injEq, Prod.mk.injEq] at h
      obtain ⟨rfl, rfl⟩ := h
      have hN := num_of_fs t h0
      have hle := fs_le t
      have hcb : ∀ x ∈ t.take (fs t), 0 ≤ x ∧ x ≤ 255 := fun x hx => hb x (List.mem_of_mem_take hx)
      have hlen : (t.take (fs t)).length = fs t := by rw [List.length_take]; omega
      have htop : 0 ≤ top (t.take (fs t)) := by
        unfold top
        rw [List.getD, List.getElem?_eq_getElem (by omega)]
        exact (hcb _ (List.getElem_mem _)).1
      refine ⟨?_, hle, by omega, dec_bound _ hg htop hN.pos⟩
      exact (enc_dec _ 9 hN hcb (fun h1 h2 => hg.1 ⟨h1, h2⟩) (by have := hg.2.1; omega)).symm
    · cases h
theorem rb_pb (x r : List Int) (h : x.length ≤ 65536) : rb (pb x ++ r) = some (x, (pb x).length) := by
  unfold rb pb
  rw [List.append_assoc, rn_enc _ _ (by omega)]
  simp only
  rw [if_pos (by simp; omega)]
  simp
theorem pb_rb {t : List Int} (hb : ∀ x ∈ t, 0 ≤ x ∧ x ≤ 255) {x : List Int} {k : Nat} (h : rb t = some (x, k)) : t.take k = pb x ∧ k ≤ t.length ∧ 1 ≤ k ∧ x.length ≤ 65536 ∧ ∀ y ∈ x, 0 ≤ y ∧ y ≤ 255 := by
  unfold rb at h
  split at h
  · cases h
  · rename_i n k' hn
    obtain ⟨e1, e2, e3, _⟩ := enc_rn hb hn
    split at h
    · rename_i hc
      simp only [Option.some.injEq, Prod.mk.injEq] at h
      obtain ⟨rfl, rfl⟩ := h
      have hl : ((t.drop k').take n).length = n := by rw [List.length_take, List.length_drop]; omega
      refine ⟨?_, hc.2, by omega, by omega, fun y hy => hb y (List.mem_of_mem_drop (List.mem_of_mem_take hy))⟩
      unfold pb
      rw [hl, ← e1, List.take_add]
    · cases h
theorem rl_lb (x : Lb) (r : List Int) (h1 : x.1.size ≤ 65536) (h2 : x.2.size ≤ 65536) : rl (lb x ++ r) = some (x, (lb x).length) := by
  unfold rl lb
  rw [List.append_assoc, rb_pb _ _ (by rw [nums_len]; exact h1)]
  simp only [List.drop_left]
  rw [rb_pb _ _ (by rw [nums_len]; exact h2)]
  simp [str_nums]
theorem lb_rl {t : List Int} (hb : ∀ x ∈ t, 0 ≤ x ∧ x ≤ 255) {x : Lb} {k : Nat} (h : rl t = some (x, k)) : t.take k = lb x ∧ k ≤ t.length ∧ 2 ≤ k := by
  unfold rl at h
  split at h
  · cases h
  · rename_i y k1 hy
    obtain ⟨e1, e2, e3, _, e4⟩ := pb_rb hb hy
    split at h
    · cases h
    · rename_i z k2 hz
      obtain ⟨f1, f2, f3, _, f4⟩ := pb_rb (fun a ha => hb a (List.mem_of_mem_drop ha)) hz
      simp only [Option.some.injEq, Prod.mk.injEq] at h
      obtain ⟨rfl, rfl⟩ := h
      rw [List.length_drop] at f2
      refine ⟨?_, by omega, by omega⟩
      unfold lb
      simp only [nums_str _ e4, nums_str _ f4]
      rw [List.take_add, e1, f1]
theorem rls_lbs : ∀ (R : List Lb) (r : List Int), (∀ x ∈ R, x.1.size ≤ 65536 ∧ x.2.size ≤ 65536) → rls R.length (lbs R ++ r) = some (R, (lbs R).length)
  | [], r, _ => rfl
  | x :: R, r, h => by
    have hx := h x (by simp)
    simp only [List.length_cons, rls, lbs]
    rw [List.append_assoc, rl_lb x _ hx.1 hx.2]
    simp only [List.drop_left]
    rw [rls_lbs R r (fun y hy => h y (by simp [hy]))]
    simp
theorem lbs_rls : ∀ (n : Nat) (t : List Int), (∀ x ∈ t, 0 ≤ x ∧ x ≤ 255) → ∀ (X : List Lb) (k : Nat), rls n t = some (X, k) → X.length = n ∧ t.take k = lbs X ∧ k ≤ t.length ∧ 2 * n ≤ k
  | 0, t, _, X, k, h => by
    simp only [rls, Option.some.injEq, Prod.mk.injEq] at h
    obtain ⟨rfl, rfl⟩ := h
    exact ⟨rfl, rfl, Nat.zero_le _, Nat.zero_le _⟩
  | n + 1, t, hb, X, k, h => by
    simp only [rls] at h
    split at h
    · cases h
    · rename_i x k1 hx
      obtain ⟨e1, e2, e3⟩ := lb_rl hb hx
      split at h
      · cases h
      · rename_i Y k2 hY
        obtain ⟨f0, f1, f2, f3⟩ := lbs_rls n (t.drop k1) (fun a ha => hb a (List.mem_of_mem_drop ha)) Y k2 hY
        simp only [Option.some.injEq, Prod.mk.injEq] at h
        obtain ⟨rfl, rfl⟩ := h
        rw [List.length_drop] at f2
        refine ⟨by simp [f0], ?_, by omega, by omega⟩
        rw [List.take_add, e1, f1]; rfl
theorem rls_snoc : ∀ (i : Nat) (t : List Int) (X : List Lb) (p : Nat) (x : Lb) (k : Nat), rls i t = some (X, p) → rl (t.drop p) = some (x, k) → rls (i + 1) t = some (X ++ [x], p + k)
  | 0, t, X, p, x, k, h, hx => by
    simp only [rls, Option.some.injEq, Prod.mk.injEq] at h
    obtain ⟨rfl, rfl⟩ := h
    simp only [List.drop_zero] at hx
    simp [rls, hx]
  | i + 1, t, X, p, x, k, h, hx => by
    rw [rls] at h
    split at h
    · cases h
    · rename_i y k1 hy
      split at h
      · cases h
      · rename_i Y k2 hY
        simp only [Option.some.injEq, Prod.mk.injEq] at h
        obtain ⟨rfl, rfl⟩ := h
        have ih := rls_snoc i (t.drop k1) Y k2 x k hY (by rw [List.drop_drop]; exact hx)
        rw [rls, hy]
        simp only
        rw [ih]
        simp [Nat.add_assoc]
theorem rls_stop : ∀ (i : Nat) (t : List Int) (X : List Lb) (p n : Nat), rls i t = some (X, p) → rl (t.drop p) = none → i < n → rls n t = none
  | 0, t, X, p, n + 1, h, hx, _ => by
    simp only [rls, Option.some.injEq, Prod.mk.injEq] at h
    obtain ⟨rfl, rfl⟩ := h
    simp only [List.drop_zero] at hx
    simp [rls, hx]
  | i + 1, t, X, p, n + 1, h, hx, hn => by
    rw [rls] at h
    split at h
    · cases h
    · rename_i y k1 hy
      split at h
      · cases h
      · rename_i Y k2 hY
        simp only [Option.some.injEq, Prod.mk.injEq] at h
        obtain ⟨rfl, rfl⟩ := h
        have ih := rls_stop i (t.drop k1) Y k2 n hY (by rw [List.drop_drop]; exact hx) (by omega)
        rw [rls, hy]
        simp only
        rw [ih]
set_option linter.unusedSimpArgs false

theorem Read_rn (w : World) (a : Option Addr) (len cap : Nat) (l : List Int) (t : Nat) (h : Has w a len cap l) (hb : len ≤ 1099511627776) (ht : t ≤ len) :
    Calls Tryz.prog 55 #[.slice a len cap, .int .i64 t] w fun e w' => ((∃ n k, rn (l.drop t) = some (n, k) ∧ e = .returned (.tuple #[.int .u64 (n : Int), .int .i64 ((t + k : Nat) : Int), .int .i64 0])) ∨ (rn (l.drop t) = none ∧ ∃ m : Int, m ≠ 0 ∧ e = .returned (.tuple #[.int .u64 0, .int .i64 0, .int .i64 m]))) ∧ Below w.heap.size w w' := by
  by_cases h0 : fs (l.drop t) = 0
  · refine (Read_short w a len cap l t h hb ht h0).mono ?_
    rintro e w' ⟨rfl, B⟩
    exact ⟨.inr ⟨by unfold rn; rw [if_pos h0], 7, by decide, rfl⟩, B⟩
  · obtain ⟨k, hk⟩ : ∃ k, fs (l.drop t) = k + 1 := ⟨fs (l.drop t) - 1, by omega⟩
    by_cases hg : good ((l.drop t).take (k + 1))
    · refine (Read_ok w a len cap l t h hb ht k hk hg).mono ?_
      rintro e w' ⟨rfl, B⟩
      refine ⟨.inl ⟨dec ((l.drop t).take (k + 1)), k + 1, by unfold rn; rw [if_neg h0, hk, if_pos hg], ?_⟩, B⟩
      rw [show ((t : Int) + ((k : Int) + 1)) = ((t + (k + 1) : Nat) : Int) by omega]
    · refine (Read_vint w a len cap l t h hb ht k hk hg).mono ?_
      rintro e w' ⟨rfl, B⟩
      exact ⟨.inr ⟨by unfold rn; rw [if_neg h0, hk, if_neg hg], 10, by decide, rfl⟩, B⟩

end Go.Proofs.YtmjjedbdedemcaaGreatDoor
