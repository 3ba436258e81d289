/-
  vint.Read and vint.ReadBytes, as functions of what is left.
-/
import Derived.Test.YtbinnpadmajgpaaVK
import Derived.Test.YtbinnpadmajgpaaVM
namespace Go.Proofs.Ytbinnpadmajgpaa.V
open Go.RowKit
set_option linter.unusedVariables false
set_option linter.unusedSimpArgs false

theorem Read_rn (w : World) (a : Option Addr) (len cap : Nat) (l : List Int) (t : Nat) (h : Has w a len cap l) (hb : len ≤ 1099511627776) (ht : t ≤ len) :
    Calls Try.prog 26 #[.slice a len cap, .int .i64 t] w fun e w' => ((∃ n k, rn (l.drop t) = some (n, k) ∧ e = .returned (.tuple #[.int .u64 (n : Int), .int .i64 ((t + k : Nat) : Int), .int .i64 0])) ∨ (rn (l.drop t) = none ∧ ∃ m : Int, m ≠ 0 ∧ e = .returned (.tuple #[.int .u64 0, .int .i64 0, .int .i64 m]))) ∧ Below w.heap.size w w' := by
  by_cases h0 : fs (l.drop t) = 0
  · refine (Read_short w a len cap l t h hb ht h0).mono ?_
    rintro e w' ⟨rfl, B⟩
    exact ⟨.inr ⟨by unfold rn; rw [if_pos h0], 7, by decide, rfl⟩, B⟩
  · obtain ⟨k, hk⟩ : ∃ k, fs (l.drop t) = k + 1 := ⟨fs (l.drop t) - 1, by omega⟩
    by_cases hg : good ((l.drop t).take (k + 1))
    · refine (Read_ok w a len cap l t h hb ht k hk hg).mono ?_
      rintro e w' ⟨rfl, B⟩
      refine ⟨.inl ⟨dec ((l.drop t).take (k + 1)), k + 1, by unfold rn; rw [if_neg h0, hk, if_pos hg], ?_⟩, B⟩
      rw [show ((t : Int) + ((k : Int) + 1)) = ((t + (k + 1) : Nat) : Int) by omega]
    · refine (Read_vint w a len cap l t h hb ht k hk hg).mono ?_
      rintro e w' ⟨rfl, B⟩
      exact ⟨.inr ⟨by unfold rn; rw [if_neg h0, hk, if_neg hg], 10, by decide, rfl⟩, B⟩

set_option maxHeartbeats 1000000 in
theorem ReadBytes_e (w : World) (v : Value) (t : Int) (m : Int) (hm : m ≠ 0) (HR : Calls Try.prog 26 #[v, .int .i64 t] w fun e w' => e = .returned (.tuple #[.int .u64 0, .int .i64 0, .int .i64 m]) ∧ Below w.heap.size w w') :
    Calls Try.prog 41 #[v, .int .i64 t] w fun e w' => e = .returned (.tuple #[.slice none 0 0, .int .i64 0, .int .i64 m]) ∧ Below w.heap.size w w' := by
  have hn' : (m != 0) = true := by rw [bne_iff_ne]; exact hm
  replace HR := hide HR
  go_enter Try.func41, Try.ntmps41
  go_wp2_with (go_at_call 26; refine HR.out.mono ?_; rintro e w1 ⟨rfl, B1⟩)
  go_ret3
  exact ⟨rfl, B1⟩

set_option maxHeartbeats 1000000 in
theorem ReadBytes_no (w : World) (a : Option Addr) (len cap t n q : Nat) (hq : q ≤ len) (hlb : len ≤ 1099511627776) (hn : n < 18446744073709551616) (hno : ¬ (n ≤ 65536 ∧ q + n ≤ len)) (HR : Calls Try.prog 26 #[.slice a len cap, .int .i64 t] w fun e w' => e = .returned (.tuple #[.int .u64 (n : Int), .int .i64 (q : Int), .int .i64 0]) ∧ Below w.heap.size w w') :
    Calls Try.prog 41 #[.slice a len cap, .int .i64 t] w fun e w' => (∃ m : Int, m ≠ 0 ∧ e = .returned (.tuple #[.slice none 0 0, .int .i64 0, .int .i64 m])) ∧ Below w.heap.size w w' := by
  replace HR := hide HR
  by_cases h1 : n ≤ 65536
  · have i1 : (n : Int) ≤ 65536 := by omega
    have i2 : (len : Int) - (q : Int) < (n : Int) := by omega
    clear hno
    go_enter Try.func41, Try.ntmps41
    go_wp2_with (go_at_call 26; refine HR.out.mono ?_; rintro e w1 ⟨rfl, B1⟩)
    go_ret3
    exact ⟨⟨_, by decide, rfl⟩, B1⟩
  · have i1 : (65536 : Int) < (n : Int) := by omega
    clear hno
    go_enter Try.func41, Try.ntmps41
    go_wp2_with (go_at_call 26; refine HR.out.mono ?_; rintro e w1 ⟨rfl, B1⟩)
    go_ret3
    exact ⟨⟨_, by decide, rfl⟩, B1⟩

theorem ReadBytes_rb (w : World) (a : Option Addr) (len cap : Nat) (l : List Int) (t : Nat) (h : Has w a len cap l) (hb : len ≤ 1099511627776) (ht : t ≤ len) :
    Calls Try.prog 41 #[.slice a len cap, .int .i64 t] w fun e w' => ((∃ x k, rb (l.drop t) = some (x, k) ∧ ∃ a' m c', e = .returned (.tuple #[.slice a' m c', .int .i64 ((t + k : Nat) : Int), .int .i64 0]) ∧ Has w' a' m c' x) ∨ (rb (l.drop t) = none ∧ ∃ m : Int, m ≠ 0 ∧ e = .returned (.tuple #[.slice none 0 0, .int .i64 0, .int .i64 m]))) ∧ Below w.heap.size w w' := by
  have hl := h.hlen
  have hbt : ∀ x ∈ l.drop t, 0 ≤ x ∧ x ≤ 255 := fun x hx => h.bytes x (List.mem_of_mem_drop hx)
  by_cases h0 : fs (l.drop t) = 0
  · have hrn : rn (l.drop t) = none := by unfold rn; rw [if_pos h0]
    refine (ReadBytes_e w _ _ 7 (by decide) (Read_short w a len cap l t h hb ht h0)).mono ?_
    rintro e w' ⟨rfl, B⟩
    exact ⟨.inr ⟨by unfold rb; rw [hrn], 7, by decide, rfl⟩, B⟩
  · obtain ⟨k, hk⟩ : ∃ k, fs (l.drop t) = k + 1 := ⟨fs (l.drop t) - 1, by omega⟩
    by_cases hg : good ((l.drop t).take (k + 1))
    · have hrn : rn (l.drop t) = some (dec ((l.drop t).take (k + 1)), k + 1) := by unfold rn; rw [if_neg h0, hk, if_pos hg]
      obtain ⟨_, e2, _, e4⟩ := enc_rn hbt hrn
      rw [List.length_drop] at e2
      have hR := Read_ok w a len cap l t h hb ht k hk hg
      obtain ⟨d, hd⟩ : ∃ d, dec ((l.drop t).take (k + 1)) = d := ⟨_, rfl⟩
      by_cases hfit : d ≤ 65536 ∧ (t + (k + 1)) + d ≤ len
      · refine (ReadBytes_ok w a len cap l t h hb ht k hk hg d hd hfit.1 hfit.2).mono ?_
        rintro e w' ⟨a', m, c', rfl, H, B⟩
        refine ⟨.inl ⟨_, k + 1 + d, ?_, a', m, c', ?_, H⟩, B⟩
        · unfold rb
          rw [hrn, hd]
          simp only
          rw [if_pos (by rw [List.length_drop]; omega), List.drop_drop]
        · rw [show ((t : Int) + ((k : Int) + 1) + (d : Int)) = ((t + (k + 1 + d) : Nat) : Int) by omega]
      · rw [hd] at hR e4
        rw [show ((t : Int) + ((k : Int) + 1)) = ((t + (k + 1) : Nat) : Int) by omega] at hR
        refine (ReadBytes_no w a len cap t d (t + (k + 1)) (by omega) hb e4 hfit hR).mono ?_
        rintro e w' ⟨⟨m, hm, rfl⟩, B⟩
        refine ⟨.inr ⟨?_, m, hm, rfl⟩, B⟩
        unfold rb
        rw [hrn, hd]
        simp only
        rw [if_neg (by rw [List.length_drop]; omega)]
    · have hrn : rn (l.drop t) = none := by unfold rn; rw [if_neg h0, hk, if_neg hg]
      refine (ReadBytes_e w _ _ 10 (by decide) (Read_vint w a len cap l t h hb ht k hk hg)).mono ?_
      rintro e w' ⟨rfl, B⟩
      exact ⟨.inr ⟨by unfold rb; rw [hrn], 10, by decide, rfl⟩, B⟩
end Go.Proofs.Ytbinnpadmajgpaa.V
