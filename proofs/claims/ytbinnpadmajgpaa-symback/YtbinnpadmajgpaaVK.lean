/-
  The walk of vint.ReadBytes where bytes are read.
-/
import Derived.Test.YtbinnpadmajgpaaVJ
namespace Go.Proofs.Ytbinnpadmajgpaa.V
open Go.RowKit
set_option linter.unusedVariables false

/-- A slice, a place and the number 0 come out. -/
def Ret3 (w : World) (l : List Int) (n : Int) (e : Ending) (w' : World) : Prop :=
  ∃ a m cap, e = .returned (.tuple #[.slice a m cap, .int .i64 n, .int .i64 0]) ∧ Has w' a m cap l ∧ Below w.heap.size w w'

set_option maxHeartbeats 1000000 in
theorem ReadBytes_ok (w : World) (a : Option Addr) (len cap : Nat) (l : List Int) (t : Nat) (h : Has w a len cap l) (hb : len ≤ 1099511627776) (ht : t ≤ len) (k : Nat) (hf : fs (l.drop t) = k + 1) (hg : good ((l.drop t).take (k + 1)))
    (d : Nat) (hd : dec ((l.drop t).take (k + 1)) = d) (hd1 : d ≤ 65536) (hd2 : t + (k + 1) + d ≤ len) :
    Calls Try.prog 41 #[.slice a len cap, .int .i64 t] w (Ret3 w ((l.drop (t + (k + 1))).take d) ((t : Int) + ((k : Int) + 1) + d)) := by
  have R := Read_ok w a len cap l t h hb ht k hf hg
  rw [hd] at R
  have HR := hide R
  have h2 := h.le
  have h3 := h.capb
  unfold maxLen at h3
  have hbytes := h.bytes
  clear R hf hg hd
  obtain ⟨q, hq⟩ : ∃ q, q = t + (k + 1) := ⟨_, rfl⟩
  rw [← hq]
  rw [show ((t : Int) + ((k : Int) + 1)) = (q : Int) by omega] at HR
  rw [show ((t : Int) + ((k : Int) + 1)) = (q : Int) by omega]
  have hqd : q + d ≤ len := by omega
  have hd1' : (d : Int) ≤ 65536 := by omega
  have hqd' : (d : Int) ≤ (len : Int) - q := by omega
  clear hq hd2
  by_cases hct : cap = q
  · have hd0 : d = 0 := by omega
    subst hd0 hct
    go_enter Try.func41, Try.ntmps41
    go_wp2_with (first
      | (go_at_call 26; refine HR.out.mono ?_; rintro e w1 ⟨rfl, B1⟩)
      | (at_make; refine wpList_make2 rfl (.tmp 32) (.tmp 32) rfl 0 0 _ _ rfl rfl rfl rfl (by omega) (by omega) ?_; intro w2 O2 B2)
      | (refine wpList_copy2 rfl (.tmp 34) (.tmp 40) rfl _ _ 0 0 _ rfl O2 a 0 0 [] rfl rfl (h.cut0 cap |>.kept B1 (Nat.le_refl _) |>.kept B2 (Nat.le_refl _)) ?_; intro w3 O3 G3; clear O2))
    go_ret3
    obtain ⟨a3, c3, hv, H3⟩ := has_of_owns O3 (by simp)
    rw [show ([] : List Int) = (l.drop cap).take 0 by simp] at H3
    have b2 := B1.trans (B2.mono B1.size)
    have b3 := b2.grown G3 b2.size (fun j hj => by cases hj; exact B1.size)
    refine ⟨a3, 0, c3, ?_, H3, b3⟩
    rw [← hv]
    simp
  · have H0 : Hid (Has w (a.map (fun x => x.add q)) d (cap - q) ((l.drop q).take d)) := (h.cut q (by omega)).front d (by omega)
    clear h
    go_enter Try.func41, Try.ntmps41
    go_wp2_with (first
      | (go_at_call 26; refine HR.out.mono ?_; rintro e w1 ⟨rfl, B1⟩)
      | (at_make; refine wpList_make2 rfl (.tmp 32) (.tmp 32) rfl d d _ _ rfl rfl rfl rfl (by omega) (by omega) ?_; intro w2 O2 B2)
      | (refine wpList_copy2 rfl (.tmp 34) (.tmp 40) rfl _ _ d d _ rfl O2 _ _ (cap - q) ((l.drop q).take d) rfl (by omega) (H0.out.kept B1 (Nat.le_refl _) |>.kept B2 (Nat.le_refl _)) ?_; intro w3 O3 G3; clear O2))
    go_ret3
    obtain ⟨a3, c3, hv, H3⟩ := has_of_owns O3 (fun x hx => hbytes x (List.mem_of_mem_drop (List.mem_of_mem_take hx)))
    have b2 := B1.trans (B2.mono B1.size)
    have b3 := b2.grown G3 b2.size (fun j hj => by cases hj; exact B1.size)
    refine ⟨a3, d, c3, ?_, H3, b3⟩
    rw [← hv]
    rfl

theorem drop_len (lb m : List Int) : (lb ++ m).drop lb.length = m := by simp
theorem fs_enc (n : Nat) (hn : n < 18446744073709551616) (r : List Int) : fs (enc n ++ r) = (sz n - 1) + 1 := by
  have := fs_encF 9 n r (by omega)
  have h1 := sz_range n
  unfold enc
  rw [this]
  unfold sz at h1 ⊢
  omega
theorem take_enc (n : Nat) (r : List Int) : (enc n ++ r).take (sz n - 1 + 1) = enc n := by
  have h1 := sz_range n
  rw [show sz n - 1 + 1 = (enc n).length by rw [enc_length]; omega]
  simp

theorem read_enc (w : World) (a : Option Addr) (len cap : Nat) (lb : List Int) (n : Nat) (r : List Int) (h : Has w a len cap (lb ++ (enc n ++ r))) (hb : len ≤ 1099511627776) (hn : n < 18446744073709551616) (t : Nat) (ht : lb.length = t) :
    Calls Try.prog 26 #[.slice a len cap, .int .i64 t] w fun e w' => e = .returned (.tuple #[.int .u64 n, .int .i64 ((t : Int) + sz n), .int .i64 0]) ∧ Below w.heap.size w w' := by
  have hl := h.hlen
  have h1 := sz_range n
  have e0 : (lb ++ (enc n ++ r)).drop t = enc n ++ r := by rw [← ht]; exact drop_len _ _
  have R := Read_ok w a len cap _ t h hb (by rw [← hl, List.length_append]; omega) (sz n - 1) (by rw [e0]; exact fs_enc n hn r) (by rw [e0, take_enc]; exact good_enc n hn)
  rw [e0, take_enc, show dec (enc n) = n from dec_encF 9 n (by omega), show ((t : Int) + (((sz n - 1 : Nat) : Int) + 1)) = (t : Int) + sz n by omega] at R
  exact R
theorem readBytes_enc (w : World) (a : Option Addr) (len cap : Nat) (lb x : List Int) (n : Nat) (hxn : x.length = n) (h : Has w a len cap (lb ++ (enc n ++ x))) (hb : len ≤ 1099511627776) (hn : n ≤ 65536) (t : Nat) (ht : lb.length = t) :
    Calls Try.prog 41 #[.slice a len cap, .int .i64 t] w (Ret3 w x ((t : Int) + sz n + n)) := by
  have hl := h.hlen
  have h1 := sz_range n
  have h2 := enc_length n
  have e0 : (lb ++ (enc n ++ x)).drop t = enc n ++ x := by rw [← ht]; exact drop_len _ _
  have e1 : (lb ++ (enc n ++ x)).drop (t + (sz n - 1 + 1)) = x := by
    rw [← List.drop_drop, e0, show sz n - 1 + 1 = (enc n).length by omega]; exact drop_len _ _
  have hlen : len = t + (sz n - 1 + 1) + n := by rw [← hl, List.length_append, List.length_append, ht, h2, hxn]; omega
  have R := ReadBytes_ok w a len cap _ t h hb (by omega) (sz n - 1) (by rw [e0]; exact fs_enc n (by omega) x) (by rw [e0, take_enc]; exact good_enc n (by omega)) n
    (by rw [e0, take_enc]; exact dec_encF 9 n (by omega)) hn (by omega)
  rw [e1, show x.take n = x from List.take_of_length_le (by omega), show ((t : Int) + (((sz n - 1 : Nat) : Int) + 1)) = (t : Int) + sz n by omega] at R
  exact R
end Go.Proofs.Ytbinnpadmajgpaa.V
