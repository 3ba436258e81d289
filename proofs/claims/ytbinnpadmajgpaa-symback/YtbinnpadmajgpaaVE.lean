/-
  The walks of vint.put at both kinds.
-/
import Derived.Test.YtbinnpadmajgpaaVD
namespace Go.Proofs.Ytbinnpadmajgpaa.V
open Go.RowKit
set_option linter.unusedVariables false

theorem or_more_all : ∀ i : Fin 256, bits BinOp.or IntKind.u8 ((i.val : Nat) : Int) 128 = ((i.val % 128 + 128 : Nat) : Int) := by decide +kernel
theorem or_more (k : Nat) : bits BinOp.or IntKind.u8 ((k : Int) % 256) 128 = ((k % 128 + 128 : Nat) : Int) := by
  have := or_more_all ⟨k % 256, by omega⟩
  simp only at this
  rw [show ((k : Int) % 256) = ((k % 256 : Nat) : Int) by omega, this]
  omega

theorem put_step {w' wr w3 : World} {u v1 : Value} {len f k : Nat} {l p E : List Int} (hk : k < 128 ^ (f + 1)) (hlt : 127 < k) (hf : 0 < f) (hp : p ++ encF f k = E) (hpb : ∀ x ∈ p, 0 ≤ x ∧ x ≤ 255) (hpf : p.length + f ≤ 9)
    (O : wr.ownsRow w'.heap.size 5 1 u (len + p.length) ((l ++ p).map (Value.int .u8))) (B : Below w'.heap.size w' wr)
    (O3 : w3.ownsRow w'.heap.size 5 1 v1 (len + p.length + 1) (l.map (Value.int .u8) ++ (p.map (Value.int .u8) ++ [Value.int .u8 ((k % 128 + 128 : Nat) : Int)])))
    (G3 : (wr.alloc (.cells #[.int .u8 ((k % 128 + 128 : Nat) : Int)] 5)).grownBy w3 u.ownBlock) :
    k / 128 < 128 ^ (f - 1 + 1) ∧ (p ++ [((k % 128 + 128 : Nat) : Int)]) ++ encF (f - 1) (k / 128) = E ∧ (∀ x ∈ p ++ [((k % 128 + 128 : Nat) : Int)], 0 ≤ x ∧ x ≤ 255) ∧ (p ++ [((k % 128 + 128 : Nat) : Int)]).length + (f - 1) ≤ 9 ∧
      w3.ownsRow w'.heap.size 5 1 v1 (len + (p ++ [((k % 128 + 128 : Nat) : Int)]).length) ((l ++ (p ++ [((k % 128 + 128 : Nat) : Int)])).map (Value.int .u8)) ∧ Below w'.heap.size w' w3 := by
  obtain ⟨f, rfl⟩ : ∃ g, f = g + 1 := ⟨f - 1, by omega⟩
  rw [encF_more _ _ (by omega)] at hp
  refine ⟨?_, ?_, ?_, ?_, ?_, ?_⟩
  · rw [Nat.pow_succ] at hk; exact Nat.div_lt_of_lt_mul (by rw [Nat.mul_comm]; simpa using hk)
  · simpa using hp
  · intro x hx
    rcases List.mem_append.1 hx with h | h
    · exact hpb x h
    · simp at h; omega
  · simp; omega
  · simpa [Nat.add_assoc] using O3
  · exact (B.alloc B.size _).grown G3 (by simp; have := B.size; omega) (fun j hj => (O.lt j hj).1)

theorem put_end {w' wr w3 : World} {u v1 : Value} {len f k : Nat} {l p E : List Int} (hk : k < 128) (hp : p ++ encF f k = E) (hl : ∀ x ∈ l, 0 ≤ x ∧ x ≤ 255) (hpb : ∀ x ∈ p, 0 ≤ x ∧ x ≤ 255) (hpf : p.length + f ≤ 9)
    (O : wr.ownsRow w'.heap.size 5 1 u (len + p.length) ((l ++ p).map (Value.int .u8))) (B : Below w'.heap.size w' wr)
    (O3 : w3.ownsRow w'.heap.size 5 1 v1 (len + p.length + 1) (l.map (Value.int .u8) ++ (p.map (Value.int .u8) ++ [Value.int .u8 (k : Int)])))
    (G3 : (wr.alloc (.cells #[.int .u8 (k : Int)] 5)).grownBy w3 u.ownBlock) : Ret w' (l ++ E) (.returned v1) w3 := by
  rw [encF_small _ _ hk] at hp
  subst hp
  refine ret_of_owns (n := len + p.length + 1) (by simpa using O3) ?_ ((B.alloc B.size _).grown G3 (by simp; have := B.size; omega) (fun j hj => (O.lt j hj).1))
  intro x hx
  rcases List.mem_append.1 hx with h | h
  · exact hl x h
  · rcases List.mem_append.1 h with h | h
    · exact hpb x h
    · simp at h; omega

set_option maxHeartbeats 1000000 in
theorem put_u (w : World) (a : Option Addr) (len cap : Nat) (l : List Int) (n : Int) (h : Has w a len cap l) (hb : len ≤ 1099511627776) (h0 : 0 ≤ n) (h1 : n < 18446744073709551616) :
    Calls Try.prog 35 #[.slice a len cap, .int .u64 n] w (Ret w (l ++ enc n.toNat)) := by
  obtain ⟨z, hz⟩ : ∃ z, z = sz n.toNat := ⟨_, rfl⟩
  have hz1 : z ≤ 10 := by have := sz_range n.toNat; omega
  have Hz : Hid (z = sz n.toNat) := hz
  have hsize := fun w' => size_any n w' h0 h1
  rw [← hz] at hsize
  have Hs : Hid (∀ w', Calls Try.prog 49 #[.int .u64 n] w' fun e w'' => e = .returned (.int .i64 z) ∧ w'' = w') := hsize
  clear hz hsize
  go_enter Try.func35, Try.ntmps35
  go_wp2_with (first
    | (go_at_call 48; refine (fold_u _ _ h0 h1).mono ?_; rintro e w' ⟨rfl, rfl⟩)
    | (go_at_call 49; refine (Hs.out _).mono ?_; rintro e w' ⟨rfl, rfl⟩)
    | (at_make; refine wpList_make2 rfl (.tmp 10) (.tmp 15) rfl len (len + z) _ _ rfl rfl rfl (by omega) (by omega) (by omega) ?_; intro w1 O1 B1)
    | (refine wpList_copy2 rfl (.tmp 17) (.tmp 18) rfl _ _ len (len + z) _ rfl O1 a len cap l rfl rfl (h.kept B1 (Nat.le_refl _)) ?_; intro w2 O2 G2; clear O1))
  have B2 : Below w'.heap.size w' w2 := B1.grown G2 B1.size (fun k hk => by cases hk; exact Nat.le_refl _)
  have hl := h.bytes
  have hn0 := h.hlen
  have He : Hid (∃ f k p, (n = ((k : Nat) : Int)) ∧ (k : Int) ≤ n ∧ k < 128 ^ (f + 1) ∧ p ++ encF f k = enc n.toNat ∧ (∀ x ∈ p, 0 ≤ x ∧ x ≤ 255) ∧ p.length + f ≤ 9 ∧ w2.ownsRow w'.heap.size 5 1 (Value.slice (some { block := w'.heap.size, off := 0 }) len (len + z)) (len + p.length) ((l ++ p).map (Value.int .u8)) ∧ Below w'.heap.size w' w2) :=
    ⟨9, n.toNat, [], by omega, by omega, by omega, rfl, (by simp), by simp, by simpa using O2, B2⟩
  clear G2 B1 O2 B2 Hs h
  simp only [Act.put, goInt, List.setIfInBounds_toArray, List.set_cons_succ, List.set_cons_zero]
  go_loopw [5, 6] (fun r v wr => ∃ f k p, (r = .int .u64 ((k : Nat) : Int)) ∧ (k : Int) ≤ n ∧ k < 128 ^ (f + 1) ∧ p ++ encF f k = enc n.toNat ∧ (∀ x ∈ p, 0 ≤ x ∧ x ≤ 255) ∧ p.length + f ≤ 9 ∧ wr.ownsRow w'.heap.size 5 1 v (len + p.length) ((l ++ p).map (Value.int .u8)) ∧ Below w'.heap.size w' wr) (fun r _ _ => (intOf r).toNat)
  case atStart =>
    obtain ⟨f, k, p, e1, e2⟩ := He.out
    exact ⟨f, k, p, by rw [e1], e2⟩
  case round =>
    clear He
    obtain ⟨f, k, p, rfl, hkn, hk, hp, hpb, hpf, O, B⟩ := hrel
    have hsz := B.size
    by_cases hlt : 127 < k
    · have hlt' : (127 : Int) < k := by omega
      have hf : 0 < f := by
        rcases Nat.eq_zero_or_pos f with h | h
        · subst h; simp at hk; omega
        · exact h
      go_wp2_with (at_builtin; refine wpList_app rfl (.tmp 22) (.tmp 26) rfl w'.heap.size _ (len + p.length) (l ++ p) rfl (O.alloc _) _ 1 1 [_] rfl (has_one wr _ ?c1) ?c2 ?c3 ?_)
      case c1 => rw [or_more]; omega
      case c2 => omega
      case c3 => simp; omega
      intro v1 w3 O3 G3
      rw [or_more] at O3 G3
      have R := put_step hk hlt hf hp hpb hpf O B O3 G3
      clear O3 G3 O B hp hpb
      go_wp2
      go_roundw
      case rel =>
        obtain ⟨r1, r2, r3, r4, r5, r6⟩ := R
        exact ⟨f - 1, k / 128, p ++ [((k % 128 + 128 : Nat) : Int)], by go_num, by omega, r1, r2, r3, r4, r5, r6⟩
      case measure => simp [intOf]; omega
    · go_wp2_with (at_builtin; refine wpList_app rfl (.tmp 30) (.tmp 33) rfl w'.heap.size _ (len + p.length) (l ++ p) rfl (O.alloc _) _ 1 1 [_] rfl (has_one wr _ ?d1) ?d2 ?d3 ?_)
      case d1 => omega
      case d2 => omega
      case d3 => simp; omega
      intro v1 w3 O3 G3
      have R := put_end (by omega) hp hl hpb hpf O B O3 G3
      clear O3 G3 O B hp hpb
      go_wp2
      go_ret
      exact R
end Go.Proofs.Ytbinnpadmajgpaa.V
