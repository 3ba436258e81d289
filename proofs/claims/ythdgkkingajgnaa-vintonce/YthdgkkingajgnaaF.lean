/-
  The walks of vint.Put, vint.PutInt, and of the reference's Put, PutInt, Size.
-/
import Derived.Test.YthdgkkingajgnaaE
namespace Go.Proofs.Ythdgkkingajgnaa
open Go.RowKit
set_option linter.unusedVariables false

set_option maxHeartbeats 400000 in
theorem Put_any (w : World) (a : Option Addr) (len cap : Nat) (l : List Int) (n : Int) (h : Has w a len cap l) (hb : len ≤ 1099511627776) (h0 : 0 ≤ n) (h1 : n < 18446744073709551616) :
    Calls Try.prog 12 #[.slice a len cap, .int .u64 n] w (Ret w (l ++ enc n.toNat)) := by
  go_enter Try.func12, Try.ntmps12
  go_wp2_with (go_at_call 27; refine (put_u _ _ _ _ _ _ h hb h0 h1).mono ?_; rintro e w' ⟨a', n', cap', rfl, hh, hB, hO⟩)
  go_ret
  exact ⟨a', n', cap', rfl, hh, hB, hO⟩

set_option maxHeartbeats 400000 in
theorem PutInt_any (w : World) (a : Option Addr) (len cap : Nat) (l : List Int) (x : Int) (h : Has w a len cap l) (hb : len ≤ 1099511627776) (hx0 : -9223372036854775808 ≤ x) (hx1 : x ≤ 9223372036854775807) :
    Calls Try.prog 14 #[.slice a len cap, .int .i64 x] w (Ret w (l ++ enc (zig x))) := by
  go_enter Try.func14, Try.ntmps14
  go_wp2_with (go_at_call 28; refine (put_i _ _ _ _ _ _ h hb hx0 hx1).mono ?_; rintro e w' ⟨a', n', cap', rfl, hh, hB, hO⟩)
  go_ret
  exact ⟨a', n', cap', rfl, hh, hB, hO⟩

set_option maxRecDepth 100000 in
set_option maxHeartbeats 1000000 in
theorem refPut_any (w : World) (a : Option Addr) (len cap : Nat) (l : List Int) (n : Int) (h : Has w a len cap l) (hb : len ≤ 1099511627776) (h0 : 0 ≤ n) (h1 : n < 18446744073709551616) :
    Calls Try.prog 13 #[.slice a len cap, .int .u64 n] w (Ret w (l ++ enc n.toNat)) := by
  have H := h.kept ((Below.refl w.heap.size w).alloc (Nat.le_refl _) (.cells #[] 5)) (Nat.le_refl _)
  have hl := h.bytes
  have hB : Below w.heap.size w (w.alloc (.cells #[] 5)) := (Below.refl _ _).alloc (Nat.le_refl _) _
  have O := owns_empty w
  clear h
  go_enter Try.func13, Try.ntmps13
  go_wp2_with (at_builtin; refine wpList_app rfl (.tmp 6) (.tmp 7) rfl w.heap.size _ 0 [] rfl O a len cap l rfl H (by omega) (by simp) ?_; intro v1 w1 O1 G1)
  have B1 : Below w.heap.size w w1 := hB.grown G1 (by simp) (fun k hk => (O.lt k hk).1)
  have He : Hid (∃ f k p, (n = ((k : Nat) : Int)) ∧ (k : Int) ≤ n ∧ k < 128 ^ (f + 1) ∧ p ++ encF f k = enc n.toNat ∧ (∀ x ∈ p, 0 ≤ x ∧ x ≤ 255) ∧ p.length + f ≤ 9 ∧ w1.ownsRow w.heap.size 5 1 v1 (len + p.length) ((l ++ p).map (Value.int .u8)) ∧ Below w.heap.size w w1) :=
    ⟨9, n.toNat, [], by omega, by omega, by omega, rfl, (by simp), by simp, by simpa using O1, B1⟩
  clear G1 B1 O1 hB H O
  go_loopw [1, 5] (fun r v wr => ∃ f k p, (r = .int .u64 ((k : Nat) : Int)) ∧ (k : Int) ≤ n ∧ k < 128 ^ (f + 1) ∧ p ++ encF f k = enc n.toNat ∧ (∀ x ∈ p, 0 ≤ x ∧ x ≤ 255) ∧ p.length + f ≤ 9 ∧ wr.ownsRow w.heap.size 5 1 v (len + p.length) ((l ++ p).map (Value.int .u8)) ∧ Below w.heap.size w wr) (fun r _ _ => (intOf r).toNat)
  case atStart =>
    obtain ⟨f, k, p, e1, e2⟩ := He.out
    exact ⟨f, k, p, by rw [e1], e2⟩
  case round =>
    clear He
    obtain ⟨f, k, p, rfl, hkn, hk, hp, hpb, hpf, O, B⟩ := hrel
    have hsz := B.size
    by_cases hlt : 127 < k
    · have hlt' : (128 : Int) ≤ k := by omega
      have hf : 0 < f := by
        rcases Nat.eq_zero_or_pos f with h | h
        · subst h; simp at hk; omega
        · exact h
      go_wp2_with (at_builtin; refine wpList_app rfl (.tmp 11) (.tmp 16) rfl w.heap.size _ (len + p.length) (l ++ p) rfl (O.alloc _) _ 1 1 [_] rfl (has_one wr _ ?c1) ?c2 ?c3 ?_)
      case c1 => omega
      case c2 => omega
      case c3 => simp; omega
      intro v1 w3 O3 G3
      rw [show (128 : Int) + (k : Int) % 128 = ((k % 128 + 128 : Nat) : Int) by omega] at O3 G3
      have R := put_step hk hlt hf hp hpb hpf O B O3 G3
      clear O3 G3 O B hp hpb
      go_wp2
      go_roundw
      case rel =>
        obtain ⟨r1, r2, r3, r4, r5, r6⟩ := R
        exact ⟨f - 1, k / 128, p ++ [((k % 128 + 128 : Nat) : Int)], by go_num, by omega, r1, r2, r3, r4, r5, r6⟩
      case measure => simp [intOf]; omega
    · have hlt' : (k : Int) < 128 := by omega
      go_wp2_with (at_builtin; refine wpList_app rfl (.tmp 20) (.tmp 23) rfl w.heap.size _ (len + p.length) (l ++ p) rfl (O.alloc _) _ 1 1 [_] rfl (has_one wr _ ?d1) ?d2 ?d3 ?_)
      case d1 => omega
      case d2 => omega
      case d3 => simp; omega
      intro v1 w3 O3 G3
      have R := put_end (by omega) hp hl hpb hpf O B O3 G3
      clear O3 G3 O B hp hpb
      go_wp2
      go_ret
      exact R

theorem zig_lt (x : Int) (hx0 : -9223372036854775808 ≤ x) (hx1 : x ≤ 9223372036854775807) : zig x < 18446744073709551616 := by unfold zig; split <;> omega

set_option maxHeartbeats 400000 in
theorem refPutInt_any (w : World) (a : Option Addr) (len cap : Nat) (l : List Int) (x : Int) (h : Has w a len cap l) (hb : len ≤ 1099511627776) (hx0 : -9223372036854775808 ≤ x) (hx1 : x ≤ 9223372036854775807) :
    Calls Try.prog 15 #[.slice a len cap, .int .i64 x] w (Ret w (l ++ enc (zig x))) := by
  have Hp : Hid (Calls Try.prog 13 #[.slice a len cap, .int .u64 (zig x)] w (Ret w (l ++ enc (zig x)))) := by
    have := refPut_any w a len cap l (zig x) h hb (by omega) (by have := zig_lt x hx0 hx1; omega)
    rwa [Int.toNat_natCast] at this
  clear h
  by_cases hx : x < 0
  · have e : Hid ((zig x : Int) = -(x + 1) * 2 + 1) := by show _ = _; unfold zig; rw [if_pos hx]; omega
    go_enter Try.func15, Try.ntmps15
    go_wp2_with fail
    have := Hp.out
    rw [e.out] at this
    refine this.mono ?_
    rintro e w' ⟨a', n', cap', rfl, hh, hB, hO⟩
    go_wp2
    go_ret
    exact ⟨a', n', cap', rfl, hh, hB, hO⟩
  · have e : Hid ((zig x : Int) = x * 2) := by show _ = _; unfold zig; rw [if_neg hx]; omega
    go_enter Try.func15, Try.ntmps15
    go_wp2_with fail
    have := Hp.out
    rw [e.out] at this
    refine this.mono ?_
    rintro e w' ⟨a', n', cap', rfl, hh, hB, hO⟩
    go_wp2
    go_ret
    exact ⟨a', n', cap', rfl, hh, hB, hO⟩

set_option maxHeartbeats 400000 in
theorem refSize_any (x : Int) (w : World) (h0 : 0 ≤ x) (h1 : x < 18446744073709551616) :
    Calls Try.prog 17 #[.int .u64 x] w fun e w' => e = .returned (.int .i64 (sz x.toNat)) ∧ Below w.heap.size w w' := by
  have Hp : Hid (Calls Try.prog 13 #[.slice none 0 0, .int .u64 x] w (Ret w (enc x.toNat))) := by
    exact refPut_any w none 0 0 [] x (has_nil w) (by omega) h0 h1
  go_enter Try.func17, Try.ntmps17
  go_wp2_with (go_at_call 13; refine Hp.out.mono ?_; rintro e w' ⟨a', n', cap', rfl, hh, hB, hO⟩)
  go_ret
  refine ⟨ret_int ?_, hB⟩
  rw [← enc_length, hh.hlen]
end Go.Proofs.Ythdgkkingajgnaa
