/-
  The walks of base.Among and of the reference's Put.
-/
import Derived.Test.YtbaclihlckfndaaDoorR
namespace Go.Proofs.YtbaclihlckfndaaDoor
open Go.RowKit
set_option linter.unusedVariables false

theorem among_val (x : Int) (n : Nat) (h1 : 1 ≤ n) : 0 ≤ (IntKind.u64.wrap x).tmod (n : Int) ∧ (IntKind.u64.wrap x).tmod (n : Int) < (n : Int) := by
  rw [IntKind.wrap_u64]
  have h : 0 ≤ x % 18446744073709551616 := Int.emod_nonneg _ (by decide)
  rw [Int.tmod_eq_emod_of_nonneg h]
  exact ⟨Int.emod_nonneg _ (by omega), Int.emod_lt_of_pos _ (by omega)⟩
theorem among_wrap (y : Int) {n : Nat} (v : 0 ≤ y ∧ y < (n : Int)) (h2 : n ≤ 9223372036854775807) : wrap64 y = ((y.toNat : Nat) : Int) := by
  unfold wrap64
  omega

/-- What it is, is a matter of x and n alone. -/
def amongOf (x : Int) (n : Nat) : Nat := ((IntKind.u64.wrap x).tmod (n : Int)).toNat

set_option maxHeartbeats 400000 in
theorem among_any (x : Int) (n : Nat) (hx : -9223372036854775808 ≤ x ∧ x ≤ 9223372036854775807) (h1 : 1 ≤ n) (h2 : n ≤ 9223372036854775807) (w : World) :
    Calls Tryd.prog 22 #[.int .i64 x, .int .i64 (n : Int)] w fun e w' => e = .returned (.int .i64 (amongOf x n : Nat)) ∧ amongOf x n < n ∧ w' = w := by
  have hn : (1 : Int) ≤ (n : Int) := by omega
  have hn' : (n : Int) ≤ 9223372036854775807 := by omega
  go_enter Tryd.func22, Tryd.ntmps22
  go_wp2
  go_ret
  have v := among_val x n h1
  exact ⟨ret_int (among_wrap _ v h2), by unfold amongOf; omega, rfl⟩

theorem bytes4_eq (s : Nat) (hs : s < 4294967296) : bytesN s 4 = [(s : Int) % 256, (s : Int) / 256 % 256, (s : Int) / 65536 % 256, (s : Int) / 16777216] := by
  have h : ∀ k, ((byteOf s k : Nat) : Int) = (s : Int) / 2 ^ (8 * k) % 256 := fun k => (byte_cast s k).symm
  rw [show bytesN s 4 = [((byteOf s 0 : Nat) : Int), ((byteOf s 1 : Nat) : Int), ((byteOf s 2 : Nat) : Int), ((byteOf s 3 : Nat) : Int)] from rfl]
  simp only [h]
  simp
  omega

set_option maxHeartbeats 1000000 in
theorem rput_any (w : World) (a : Option Addr) (len cap : Nat) (l : List Int) (h : Has w a len cap l) (hb : len ≤ 1099511627776) (s : Nat) (hs : s < 4294967296) :
    Calls Tryd.prog 34 #[.slice a len cap, .int .u32 (s : Int)] w (Ret w (l ++ bytesN s 4)) := by
  have hl := hide (Byts.app h.bytes (byts_N s 4))
  have H := h.kept ((Below.refl w.heap.size w).alloc (Nat.le_refl _) (.cells #[] 5)) (Nat.le_refl _)
  have hB : Below w.heap.size w (w.alloc (.cells #[] 5)) := (Below.refl _ _).alloc (Nat.le_refl _) _
  have O := owns_empty w
  have hQ : Hid (∀ w1 : World, Has (w1.alloc (.cells #[.int .u8 ((s : Int) % 256), .int .u8 ((s : Int) / 256 % 256), .int .u8 ((s : Int) / 65536 % 256), .int .u8 ((s : Int) / 16777216)] 5)) (some ⟨w1.heap.size, 0, none⟩) 4 4 (bytesN s 4)) := fun w1 => by
    have := has_lit w1 (bytesN s 4) (byts_N s 4) (by rw [bytesN_len]; unfold maxLen; decide)
    rw [bytesN_len] at this
    rw [bytes4_eq s hs] at this ⊢
    exact this
  clear h
  go_enter Tryd.func34, Tryd.ntmps34
  go_wp2_with (first
    | (at_builtin; refine wpList_app rfl (.tmp 5) (.tmp 6) rfl w.heap.size _ 0 [] rfl O a len cap l rfl H (by omega) (by simp) ?_; intro v1 w1 O1 G1; have O1' := (hide O.lt); clear O)
    | (at_builtin; refine wpList_app rfl (.tmp 7) (.tmp 22) rfl w.heap.size v1 (0 + len) l rfl (by simpa using O1.alloc _) _ 4 4 (bytesN s 4) rfl (hQ.out w1) (by omega) ?c3 ?_; rotate_left 1; intro v2 w2 O2 G2))
  case c3 => have := hB.size; have := G1.size; simp at *; omega
  go_ret
  have B1 := hB.grown G1 (by simp) (fun k hk => (O1'.out k hk).1)
  have B2 := (B1.alloc B1.size _).grown G2 (by simp; have := B1.size; omega) (fun k hk => (O1.lt k hk).1)
  exact ret_of_owns (n := 0 + len + 4) (by simpa using O2) hl.out B2
end Go.Proofs.YtbaclihlckfndaaDoor
