/-
  The reference of vint.Put.
-/
import Derived.Test.YtmjjedbdedemcaaGreatDoorVB
namespace Go.Proofs.YtmjjedbdedemcaaGreatDoor
open Go.RowKit
set_option linter.unusedVariables false

set_option maxRecDepth 100000 in
set_option maxHeartbeats 1000000 in
theorem refPut_any (w : World) (a : Option Addr) (len cap : Nat) (l : List Int) (n : Int) (h : Has w a len cap l) (hb : len ≤ 1099511627776) (h0 : 0 ≤ n) (h1 : n < 18446744073709551616) :
    Calls Tryz.prog 22 #[.slice a len cap, .int .u64 n] w (Ret w (l ++ enc n.toNat)) := by
  have H := h.kept ((Below.refl w.heap.size w).alloc (Nat.le_refl _) (.cells #[] 5)) (Nat.le_refl _)
  have hl := h.bytes
  have hB : Below w.heap.size w (w.alloc (.cells #[] 5)) := (Below.refl _ _).alloc (Nat.le_refl _) _
  have O := owns_empty w
  clear h
  go_enter Tryz.func22, Tryz.ntmps22
  go_wp2_with (at_builtin; refine wpList_app rfl (.tmp 6) (.tmp 7) rfl w.heap.size _ 0 [] rfl O a len cap l rfl H (by omega) (by simp) ?_; intro v1 w1 O1 G1)
  have B1 : Below w.heap.size w w1 := hB.grown G1 (by simp) (fun k hk => (O.lt k hk).1)
  have He : Hid (∃ f k p, (n = ((k : Nat) : Int)) ∧ (k : Int) ≤ n ∧ k < 128 ^ (f + 1) ∧ p ++ encF f k = enc n.toNat ∧ (∀ x ∈ p, 0 ≤ x ∧ x ≤ 255) ∧ p.length + f ≤ 9 ∧ w1.ownsRow w.heap.size 5 1 v1 (len + p.length) ((l ++ p).map (Value.int .u8)) ∧ Below w.heap.size w w1) :=
    ⟨9, n.toNat, [], by omega, by omega, by omega, rfl, (by simp), by simp, by simpa using O1, B1⟩
  clear G1 B1 O1 hB H O
  go_loopw [1, 5] (fun r v wr => ∃ f k p, (r = .int .u64 ((k : Nat) : Int)) ∧ (k : Int) ≤ n ∧ k < 128 ^ (f + 1) ∧ p ++ encF f k = enc n.toNat ∧ (∀ x ∈ p, 0 ≤ x ∧ x ≤ 255) ∧ p.length + f ≤ 9 ∧ wr.ownsRow w.heap.size 5 1 v (len + p.length) ((l ++ p).map (Value.int .u8)) ∧ Below w.heap.size w wr) (fun r _ _ => (intOf r).toNat)
  case atStart =>
    obtain ⟨f, k, p, e1, e2⟩ := He.out
    exact ⟨f, k, p, by rw [e1], e2⟩
  case round =>
    clear He
    obtain ⟨f, k, p, rfl, hkn, hk, hp, hpb, hpf, O, B⟩ := hrel
    have hsz := B.size
    by_cases hlt : 127 < k
    · have hlt' : (128 : Int) ≤ k := by omega
      have hf : 0 < f := by
        rcases Nat.eq_zero_or_pos f with h | h
        · subst h; simp at hk; omega
        · exact h
      go_wp2_with (at_builtin; refine wpList_app rfl (.tmp 11) (.tmp 16) rfl w.heap.size _ (len + p.length) (l ++ p) rfl (O.alloc _) _ 1 1 [_] rfl (has_one wr _ ?c1) ?c2 ?c3 ?_)
      case c1 => omega
      case c2 => omega
      case c3 => simp; omega
      intro v1 w3 O3 G3
      rw [show (128 : Int) + (k : Int) % 128 = ((k % 128 + 128 : Nat) : Int) by omega] at O3 G3
      have R := put_step hk hlt hf hp hpb hpf O B O3 G3
      clear O3 G3 O B hp hpb
      go_wp2
      go_roundw
      case rel =>
        obtain ⟨r1, r2, r3, r4, r5, r6⟩ := R
        exact ⟨f - 1, k / 128, p ++ [((k % 128 + 128 : Nat) : Int)], by go_num, by omega, r1, r2, r3, r4, r5, r6⟩
      case measure => simp [intOf]; omega
    · have hlt' : (k : Int) < 128 := by omega
      go_wp2_with (at_builtin; refine wpList_app rfl (.tmp 20) (.tmp 23) rfl w.heap.size _ (len + p.length) (l ++ p) rfl (O.alloc _) _ 1 1 [_] rfl (has_one wr _ ?d1) ?d2 ?d3 ?_)
      case d1 => omega
      case d2 => omega
      case d3 => simp; omega
      intro v1 w3 O3 G3
      have R := put_end (by omega) hp hl hpb hpf O B O3 G3
      clear O3 G3 O B hp hpb
      go_wp2
      go_ret
      exact R

end Go.Proofs.YtmjjedbdedemcaaGreatDoor
