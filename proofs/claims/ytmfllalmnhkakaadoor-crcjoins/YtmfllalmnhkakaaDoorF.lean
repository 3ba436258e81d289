/-
  The walks of Put, Sealed, Read and the reference's.
-/
import Derived.Test.YtmfllalmnhkakaaDoorE
import Derived.BigQuiet
import Derived.Deep.QuietTactic
import Derived.WalkSmall
namespace Go.Proofs.YtmfllalmnhkakaaDoor
open Go.RowKit
set_option linter.unusedVariables false

theorem sumBytes_bytes (s : Nat) : ∀ x ∈ sumBytes s, 0 ≤ x ∧ x ≤ 255 := by
  intro x hx
  have h0 := byte_lt s 0
  have h1 := byte_lt s 1
  have h2 := byte_lt s 2
  have h3 := byte_lt s 3
  simp [sumBytes] at hx
  omega
theorem app_bytes {l m : List Int} (hl : ∀ x ∈ l, 0 ≤ x ∧ x ≤ 255) (hm : ∀ x ∈ m, 0 ≤ x ∧ x ≤ 255) : ∀ x ∈ l ++ m, 0 ≤ x ∧ x ≤ 255 := by
  intro x hx
  rcases List.mem_append.1 hx with h | h
  · exact hl x h
  · exact hm x h
theorem sumBytes_eq (s : Nat) (hs : s < 4294967296) : sumBytes s = [(s : Int) % 256, (s : Int) / 256 % 256, (s : Int) / 65536 % 256, (s : Int) / 16777216] := by
  have h : ∀ k, ((byteOf s k : Nat) : Int) = (s : Int) / 2 ^ (8 * k) % 256 := fun k => (byte_cast s k).symm
  simp only [sumBytes, h]
  simp
  omega
/-- The whole of an array of four bytes, as a slice. -/
theorem has_arr {w : World} {g : Nat} {s : Nat} (h : Arr w g 47 .u8 4 (byteOf s)) : Has w (some ⟨g, 0, none⟩) 4 4 (sumBytes s) := by
  refine ⟨rfl, Nat.le_refl _, by unfold maxLen; decide, (fun e => by cases e), fun _ => ⟨g, 0, rfl, h.lt, fun i hi => ?_⟩, sumBytes_bytes s⟩
  have := h.cell i hi
  rw [Nat.zero_add, this]
  rcases i with _ | _ | _ | _ | i
  · rfl
  · rfl
  · rfl
  · rfl
  · omega

theorem owns_mono {w : World} {base base' : Nat} {v : Value} {n : Nat} {l : List Value} (h : w.ownsRow base 5 1 v n l) (hb : base' ≤ base) : w.ownsRow base' 5 1 v n l := by
  refine ⟨h.1, ?_⟩
  rcases h.2 with h1 | ⟨g, cap, cur, e, hbg, rest⟩
  · exact .inl h1
  · exact .inr ⟨g, cap, cur, e, Nat.le_trans hb hbg, rest⟩

set_option maxHeartbeats 1000000 in
theorem put_any (w : World) (a : Option Addr) (len cap : Nat) (l : List Int) (h : Has w a len cap l) (hb : len ≤ 1099511627776) (s : Nat) (hs : s < 4294967296) :
    Calls Tryd.prog 20 #[.slice a len cap, .int .u32 (s : Int)] w (Ret w (l ++ sumBytes s)) := by
  have hl := hide (app_bytes h.bytes (sumBytes_bytes s))
  go_enter Tryd.func20, Tryd.ntmps20
  go_wp2_with (first
    | (go_at_call 29; refine (split_any s hs _).mono ?_; rintro e w1 ⟨rfl, B1⟩)
    | (refine wpList_store_row rfl 47 (.tmp 5) (.tmp 8) rfl w1.heap.size _ rfl rfl 47 (arr .u8 4 (fun _ => 0)) (arr_new w1 47 .u8 4 (fun _ => 0)) (by rw [arr_size]; exact info47) (by rw [arr_size, arr_size]) (arr_one _ _ _) ?_
       obtain ⟨w2, hw2, A2, B2⟩ : ∃ w2, ((w1.alloc (.cells #[.int .u8 0, .int .u8 0, .int .u8 0, .int .u8 0] 47)).setRow w1.heap.size (arr .u8 4 (byteOf s))) = w2 ∧ Arr w2 w1.heap.size 47 .u8 4 (byteOf s) ∧ Below w.heap.size w w2 := ⟨_, rfl, (arr_new w1 47 .u8 4 (fun _ => 0)).setRow _, below_setRow (B1.alloc B1.size _) B1.size _⟩
       rw [hw2]; clear hw2)
    | (at_make; refine wpList_make2 rfl (.tmp 10) (.tmp 13) rfl len (len + 4) _ _ rfl rfl rfl (by omega) (by omega) (by omega) ?_; intro w3 O3 B3)
    | (refine wpList_copy2 rfl (.tmp 15) (.tmp 16) rfl _ _ len (len + 4) _ rfl O3 a len cap l rfl rfl ((h.kept B2 (Nat.le_refl _)).kept B3 (Nat.le_refl _)) ?_; intro w4 O4 G4; clear O3)
    | (at_builtin; refine wpList_app rfl (.tmp 18) (.tmp 19) rfl w2.heap.size _ len l rfl O4 _ 4 4 (sumBytes s) rfl ?c1 ?c2 ?c3 ?_; rotate_left 3; intro v5 w5 O5 G5))
  case c1 =>
    have h3 := (has_arr A2).kept B3 (Nat.le_refl _)
    have B4 : Below w2.heap.size w3 w4 := (Below.refl _ w3).grown G4 B3.size (fun k hk => by cases hk; exact Nat.le_refl _)
    refine ⟨h3.hlen, h3.le, h3.capb, h3.nil, fun hp => ?_, h3.bytes⟩
    obtain ⟨b, off, e1, e2, e3⟩ := h3.cells hp
    cases e1
    exact ⟨w1.heap.size, 0, rfl, Nat.lt_of_lt_of_le e2 B4.size, fun i hi => (B4.cell (p := ⟨w1.heap.size, 0 + i, none⟩) A2.lt).trans (e3 i hi)⟩
  case c2 => omega
  case c3 => exact Nat.le_trans B3.size G4.size
  go_ret
  have B3' := B2.trans (B3.mono B2.size)
  have B4 := B3'.grown G4 B3'.size (fun k hk => by cases hk; exact B2.size)
  have B5 := B4.grown G5 B4.size (fun k hk => Nat.le_trans B2.size (O4.lt k hk).1)
  exact ret_of_owns (owns_mono O5 B2.size) hl.out B5

set_option maxHeartbeats 1000000 in
theorem rput_any (w : World) (a : Option Addr) (len cap : Nat) (l : List Int) (h : Has w a len cap l) (hb : len ≤ 1099511627776) (s : Nat) (hs : s < 4294967296) :
    Calls Tryd.prog 21 #[.slice a len cap, .int .u32 (s : Int)] w (Ret w (l ++ sumBytes s)) := by
  have hl := hide (app_bytes h.bytes (sumBytes_bytes s))
  have H := h.kept ((Below.refl w.heap.size w).alloc (Nat.le_refl _) (.cells #[] 5)) (Nat.le_refl _)
  have hB : Below w.heap.size w (w.alloc (.cells #[] 5)) := (Below.refl _ _).alloc (Nat.le_refl _) _
  have O := owns_empty w
  have hQ : Hid (∀ w1 : World, Has (w1.alloc (.cells #[.int .u8 ((s : Int) % 256), .int .u8 ((s : Int) / 256 % 256), .int .u8 ((s : Int) / 65536 % 256), .int .u8 ((s : Int) / 16777216)] 5)) (some ⟨w1.heap.size, 0, none⟩) 4 4 (sumBytes s)) := fun w1 => by
    have := has_lit w1 (sumBytes s) (sumBytes_bytes s) (by show 4 ≤ maxLen; unfold maxLen; decide)
    rw [sumBytes_eq s hs] at this ⊢
    exact this
  clear h
  go_enter Tryd.func21, Tryd.ntmps21
  go_wp2_with (first
    | (at_builtin; refine wpList_app rfl (.tmp 5) (.tmp 6) rfl w.heap.size _ 0 [] rfl O a len cap l rfl H (by omega) (by simp) ?_; intro v1 w1 O1 G1; have O1' := (hide O.lt); clear O)
    | (at_builtin; refine wpList_app rfl (.tmp 7) (.tmp 22) rfl w.heap.size v1 (0 + len) l rfl (by simpa using O1.alloc _) _ 4 4 (sumBytes s) rfl (hQ.out w1) (by omega) ?c3 ?_; rotate_left 1; intro v2 w2 O2 G2))
  case c3 => have := hB.size; have := G1.size; simp at *; omega
  go_ret
  have B1 := hB.grown G1 (by simp) (fun k hk => (O1'.out k hk).1)
  have B2 := (B1.alloc B1.size _).grown G2 (by simp; have := B1.size; omega) (fun k hk => (O1.lt k hk).1)
  exact ret_of_owns (n := 0 + len + 4) (by simpa using O2) hl.out B2

/-- The number that the first k bytes are. -/
def numK (l : List Int) : Nat → Nat
  | 0 => 0
  | k + 1 => numK l k + 2 ^ (8 * k) * (l.getD k 0).toNat
theorem numK_lt {l : List Int} (h : ∀ x ∈ l, 0 ≤ x ∧ x ≤ 255) (k : Nat) (hk : k ≤ l.length) : numK l k < 2 ^ (8 * k) := by
  induction k with
  | zero => exact Nat.one_pos
  | succ k ih =>
    have h1 := ih (by omega)
    have h2 := getD_byte h k (by omega)
    simp only [numK]
    rw [show 8 * (k + 1) = 8 * k + 8 by omega, Nat.pow_add]
    have h3 : 2 ^ (8 * k) * (l.getD k 0).toNat ≤ 2 ^ (8 * k) * 255 := Nat.mul_le_mul_left _ (by omega)
    omega

theorem or_in {y k : Nat} {c : Int} (hk : k < 4) (hy : y < 2 ^ (8 * k)) (hc : 0 ≤ c ∧ c ≤ 255) : bits .or .u32 (y : Int) (c * 2 ^ (8 * k) % 4294967296) = ((y + 2 ^ (8 * k) * c.toNat : Nat) : Int) := by
  obtain ⟨d, rfl⟩ : ∃ d : Nat, c = d := ⟨c.toNat, by omega⟩
  have hd : d ≤ 255 := by omega
  have hp : 2 ^ (8 * k) ≤ 2 ^ 24 := Nat.pow_le_pow_right (by decide) (by omega)
  have hm : d * 2 ^ (8 * k) ≤ 255 * 2 ^ 24 := Nat.mul_le_mul hd hp
  have e : (d : Int) * 2 ^ (8 * k) % 4294967296 = ((d * 2 ^ (8 * k) : Nat) : Int) := by
    have : (d : Int) * 2 ^ (8 * k) = ((d * 2 ^ (8 * k) : Nat) : Int) := by simp
    rw [this]
    omega
  rw [e, u32_or_nat y (d * 2 ^ (8 * k)) (by omega) (by omega), Nat.or_comm, nat_join (8 * k) (d * 2 ^ (8 * k)) y (Nat.mul_mod_left _ _) hy, Int.toNat_natCast, Nat.add_comm, Nat.mul_comm]

set_option maxHeartbeats 1000000 in
theorem read_any (w : World) (a : Option Addr) (len cap : Nat) (l : List Int) (h : Has w a len cap l) (h4 : 4 ≤ len) :
    Calls Tryd.prog 16 #[.slice a len cap] w fun e w' => e = .returned (.tuple #[.int .u32 (numK l 4 : Nat), .int .i64 0]) ∧ w' = w := by
  have hl := h.hlen
  have hbytes := hide h.bytes
  have hle := h.le
  have hcap := h.capb
  unfold maxLen at hcap
  obtain ⟨b, off, rfl, hb, hc⟩ := h.cells (by omega)
  have hc := hide hc
  clear h
  go_enter Tryd.func16, Tryd.ntmps16
  go_wp2
  go_loop [4, 9] (fun v i => ∃ k y : Nat, k ≤ 4 ∧ i = .int .i64 k ∧ v = .int .u32 (y : Int) ∧ Hid (y = numK l k)) (fun _ i => 4 - (intOf i).toNat)
  case atStart => exact ⟨0, 0, by omega, rfl, rfl, rfl⟩
  case round =>
    obtain ⟨k, y, hk, rfl, rfl, hy⟩ := hrel
    by_cases hk4 : k < 4
    · have hcx := hc.out k (by omega)
      have hby := getD_byte hbytes.out k (by omega)
      have hor := or_in hk4 (show y < 2 ^ (8 * k) by rw [hy.out]; exact numK_lt hbytes.out k (by omega)) hby
      have hnew : Hid (y + 2 ^ (8 * k) * (l.getD k 0).toNat = numK l (k + 1)) := by rw [hy.out]; rfl
      generalize y + 2 ^ (8 * k) * (l.getD k 0).toNat = z at hor hnew
      generalize l.getD k 0 = c at hcx hby hor
      go_wp2
      go_round
      case rel => exact ⟨k + 1, z, by omega, by go_num, rfl, hnew⟩
      case measure => simp [intOf]; omega
    · obtain rfl : k = 4 := by omega
      have := hy.out
      subst this
      go_wp2
      go_ret2
      exact ⟨rfl, rfl⟩

set_option maxHeartbeats 400000 in
theorem read_short (w : World) (a : Option Addr) (len cap : Nat) (l : List Int) (h : Has w a len cap l) (h4 : len < 4) :
    Calls Tryd.prog 16 #[.slice a len cap] w fun e w' => e = .returned (.tuple #[.int .u32 0, .int .i64 7]) ∧ w' = w := by
  have h4' : (len : Int) < 4 := by omega
  clear h
  go_enter Tryd.func16, Tryd.ntmps16
  go_wp2
  go_ret2
  exact ⟨rfl, rfl⟩

set_option maxHeartbeats 400000 in
theorem rread_short (w : World) (a : Option Addr) (len cap : Nat) (l : List Int) (h : Has w a len cap l) (h4 : len < 4) :
    Calls Tryd.prog 17 #[.slice a len cap] w fun e w' => e = .returned (.tuple #[.int .u32 0, .int .i64 7]) ∧ w' = w := by
  have h4' : (len : Int) < 4 := by omega
  clear h
  go_enter Tryd.func17, Tryd.ntmps17
  go_wp2
  go_ret2
  exact ⟨rfl, rfl⟩

set_option maxHeartbeats 1000000 in
theorem rread_any (w : World) (a : Option Addr) (len cap : Nat) (l : List Int) (h : Has w a len cap l) (h4 : 4 ≤ len) :
    Calls Tryd.prog 17 #[.slice a len cap] w fun e w' => e = .returned (.tuple #[.int .u32 (numK l 4 : Nat), .int .i64 0]) ∧ Below w.heap.size w w' := by
  have hl := h.hlen
  have hle := h.le
  have hcap := h.capb
  unfold maxLen at hcap
  have hcap' : (cap : Int) ≤ 9223372036854775807 := by omega
  have h4' : (4 : Int) ≤ (len : Int) := by omega
  obtain ⟨b, off, rfl, hb, hc⟩ := h.cells (by omega)
  have c0 := hc 0 (by omega)
  rw [Nat.add_zero] at c0
  have i0 : (0 : Int) < (len : Int) := by omega
  have i1 : (1 : Int) < (len : Int) := by omega
  have i2 : (2 : Int) < (len : Int) := by omega
  have i3 : (3 : Int) < (len : Int) := by omega
  have n0 : 0 < len := by omega
  have n1 : 1 < len := by omega
  have n2 : 2 < len := by omega
  have n3 : 3 < len := by omega
  have c1 := hc 1 (by omega)
  have c2 := hc 2 (by omega)
  have c3 := hc 3 (by omega)
  have b0 := getD_byte h.bytes 0 (by omega)
  have b1 := getD_byte h.bytes 1 (by omega)
  have b2 := getD_byte h.bytes 2 (by omega)
  have b3 := getD_byte h.bytes 3 (by omega)
  have hn : Hid (((numK l 4 : Nat) : Int) = l.getD 0 0 + 256 * l.getD 1 0 + 65536 * l.getD 2 0 + 16777216 * l.getD 3 0) := by
    show ((numK l 4 : Nat) : Int) = _
    have e : numK l 4 = (l.getD 0 0).toNat + 256 * (l.getD 1 0).toNat + 65536 * (l.getD 2 0).toNat + 16777216 * (l.getD 3 0).toNat := by
      simp only [numK, Nat.reduceMul, Nat.reducePow, Nat.one_mul, Nat.zero_add]
    rw [e]
    omega
  generalize l.getD 0 0 = x0 at *
  generalize l.getD 1 0 = x1 at *
  generalize l.getD 2 0 = x2 at *
  generalize l.getD 3 0 = x3 at *
  clear h hc
  go_enter Tryd.func17, Tryd.ntmps17
  go_wp2_with fail
  go_quiet (fail)
  go_wp2
  go_ret2
  exact ⟨by rw [hn.out]; rfl, below_drewN (Below.refl _ _) _⟩

set_option maxHeartbeats 400000 in
theorem sealed_any (w : World) (a : Option Addr) (len cap : Nat) (l : List Int) (h : Has w a len cap l) (hb : len ≤ 1099511627776) (ht : Tab w) :
    Calls Tryd.prog 22 #[.slice a len cap] w (Ret w (l ++ sumBytes (more 0 l))) := by
  have hm := hide (sum_any a len cap l w h ht)
  have hp : Hid (∀ w1, Below w.heap.size w w1 → Calls Tryd.prog 20 #[.slice a len cap, .int .u32 (more 0 l : Nat)] w1 (Ret w1 (l ++ sumBytes (more 0 l)))) := fun w1 B1 => put_any w1 a len cap l (h.kept B1 (Nat.le_refl _)) hb _ (more_lt (by decide) h.bytes)
  clear h ht
  go_enter Tryd.func22, Tryd.ntmps22
  go_wp2_with fail
  refine hm.out.mono ?_
  rintro e w1 ⟨rfl, B1⟩
  go_wp2_with fail
  refine (hp.out w1 B1).mono ?_
  rintro e w2 ⟨a2, n2, c2, rfl, H2, B2, O2⟩
  go_wp2
  go_ret
  exact ⟨a2, n2, c2, rfl, H2, B1.trans (B2.mono B1.size), owns_mono O2 B1.size⟩

set_option maxHeartbeats 400000 in
theorem rsealed_any (w : World) (a : Option Addr) (len cap : Nat) (l : List Int) (h : Has w a len cap l) (hb : len ≤ 1099511627776) :
    Calls Tryd.prog 23 #[.slice a len cap] w (Ret w (l ++ sumBytes (more 0 l))) := by
  have hm := hide (rsum_any a len cap l w h)
  have hp := hide (rput_any w a len cap l h hb _ (more_lt (s := 0) (by decide) h.bytes))
  clear h
  go_enter Tryd.func23, Tryd.ntmps23
  go_wp2_with fail
  refine hm.out.mono ?_
  rintro e w1 ⟨rfl, rfl⟩
  go_wp2_with fail
  refine hp.out.mono ?_
  rintro e w2 ⟨a2, n2, c2, rfl, H2, B2, O2⟩
  go_wp2
  go_ret
  exact ⟨a2, n2, c2, rfl, H2, B2, O2⟩
end Go.Proofs.YtmfllalmnhkakaaDoor
