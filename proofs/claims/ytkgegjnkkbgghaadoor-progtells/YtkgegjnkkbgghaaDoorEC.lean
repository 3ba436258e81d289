/-
  base.Itoa; whether a byte is in a set, by the reference.
-/
import Derived.Test.YtkgegjnkkbgghaaDoorEB
import Derived.Test.YtkgegjnkkbgghaaDoorDR
import Derived.Laws.BytesArg
namespace Go.Proofs.YtkgegjnkkbgghaaDoor
open Go.RowKit Go.Shelf Go.Lib
set_option linter.unusedVariables false
set_option linter.unusedSimpArgs false

theorem str_one (x : Int) : strOfNums [x] = ⟨#[UInt8.ofNat x.toNat]⟩ := rfl
theorem run_str1 (w : World) (x : Int) (hx : 0 ≤ x ∧ x ≤ 255) : (convert 59 9 (.slice (some ⟨w.heap.size, 0, none⟩) 1 1)).run Tryd.prog (w.alloc (.cells #[.int .u8 x] 5)) = .ok (.string (strOfNums [x])) (w.alloc (.cells #[.int .u8 x] 5)) :=
  run_convert_bytes_arg _ 59 5 Tryd.underlying59 Tryd.underlying5 w.heap.size 0 1 1 [x] rfl (fun i hi => by
    obtain rfl : i = 0 := by omega
    simp) 9 Tryd.underlying9
theorem dec_step (n : Nat) (h : 0 < n) (t : List UInt8) : (if n / 10 = 0 then [] else decDigits (n / 10)) ++ UInt8.ofNat (48 + n % 10) :: t = decDigits n ++ t := by
  rw [decDigits.eq_def n]
  by_cases h9 : n < 10
  · rw [if_pos (by omega), dif_pos h9, show n % 10 = n by omega]
    rfl
  · rw [if_neg (by omega), dif_neg h9]
    simp
set_option maxHeartbeats 2000000 in
set_option maxRecDepth 100000 in
theorem bitoa_gen (D : Nat → List UInt8) (hD0 : D 0 = [48]) (hD : ∀ n t, 0 < n → (if n / 10 = 0 then [] else D (n / 10)) ++ UInt8.ofNat (48 + n % 10) :: t = D n ++ t) (i : Nat) (hi : i < 1000000) (w : World) : Calls Tryd.prog 33 #[.int .i64 (i : Int)] w fun e w' => e = .returned (.string ⟨(D i).toArray⟩) ∧ Below w.heap.size w w' := by
  by_cases h0 : i = 0
  · subst h0
    have e0 : ((0 : Nat) : Int) = 0 := rfl
    have e1 : (⟨(D 0).toArray⟩ : ByteArray) = ⟨#[48]⟩ := by rw [hD0]
    rw [e0, e1]
    go_enter Tryd.func33, Tryd.ntmps33
    go_wp2
    go_ret
    exact ⟨rfl, Below.refl _ _⟩
  · have i0 : ¬ ((i : Int) = 0) := by omega
    have i1 : ((i : Int) == 0) = false := by simpa using h0
    have i3 : ¬ ((i : Int) < 0) := by omega
    generalize hres : (⟨(D i).toArray⟩ : ByteArray) = res
    replace hres := hide hres
    go_enter Tryd.func33, Tryd.ntmps33
    go_wp2_with fail
    go_loopw [3, 4] (fun ss v wr => ∃ (n : Nat) (s : ByteArray), n ≤ i ∧ ss = .string s ∧ v = .int .i64 (n : Int) ∧ Hid ((if n = 0 then [] else D n) ++ s.data.toList = D i ∧ s.size + n ≤ i) ∧ Hid (Below w.heap.size w wr)) (fun _ v _ => (RowKit.intOf v).toNat)
    case atStart => exact ⟨i, _, Nat.le_refl _, rfl, rfl, ⟨by rw [if_neg h0]; simp, Nat.le_of_eq (Nat.zero_add _)⟩, Below.refl _ _⟩
    case round =>
      obtain ⟨n, s, hn, rfl, rfl, hs, hB⟩ := hrel
      by_cases hn0 : n = 0
      · subst hn0
        have e0 : ((0 : Nat) : Int) = 0 := rfl
        rw [e0]
        have hs3 : s = res := by
          rw [← hres.out]
          have := hs.out.1
          rw [if_pos rfl, List.nil_append] at this
          obtain ⟨d⟩ := s
          have h2 : d.toList = D i := this
          rw [← h2]
        subst hs3
        go_wp2_with fail
        go_ret
        exact ⟨rfl, hB.out⟩
      · have j0 : ¬ ((n : Int) = 0) := by omega
        have j1 : ((n : Int) == 0) = false := by simpa using hn0
        obtain ⟨d, hd⟩ : ∃ d : Nat, (n : Int).tmod 10 = (d : Int) := ⟨n % 10, by rw [Int.tmod_eq_emod_of_nonneg (by omega)]; omega⟩
        obtain ⟨q, hq⟩ : ∃ q : Nat, (n : Int).tdiv 10 = (q : Int) := ⟨n / 10, by rw [Int.tdiv_eq_ediv_of_nonneg (by omega)]; omega⟩
        have hd9 : d ≤ 9 := by rw [Int.tmod_eq_emod_of_nonneg (by omega)] at hd; omega
        have hdn : d = n % 10 := by rw [Int.tmod_eq_emod_of_nonneg (by omega)] at hd; omega
        have hq9 : q = n / 10 := by rw [Int.tdiv_eq_ediv_of_nonneg (by omega)] at hq; omega
        have j2 : ¬ ((d : Int) < 0) := by omega
        have hqb : q ≤ 1000000 := by omega
        have hqw : wrap64 (q : Int) = (q : Int) := w64 _ (by omega)
        have hu : IntKind.u8.wrap (48 + (d : Int)) = 48 + (d : Int) := by simp [IntKind.wrap, IntKind.signed, IntKind.bits]; omega
        have HH := run_str1 wr (48 + (d : Int)) (by omega)
        have hz : (strOfNums [48 + (d : Int)]).data.toList = [UInt8.ofNat (48 + n % 10)] := by
          rw [str_one, hdn]
          show [UInt8.ofNat (48 + ((n % 10 : Nat) : Int)).toNat] = _
          rw [show (48 + ((n % 10 : Nat) : Int)).toNat = 48 + n % 10 by omega]
        have hz1 : (strOfNums [48 + (d : Int)]).size = 1 := rfl
        generalize strOfNums [48 + (d : Int)] = z at HH hz hz1
        have hs2 : Hid ((if q = 0 then [] else D q) ++ (z ++ s).data.toList = D i ∧ (z ++ s).size + q ≤ i) := by
          have h := hs.out
          refine ⟨?_, ?_⟩
          · rw [ByteArray.data_append, Array.toList_append, hz, hq9]
            have := hD n s.data.toList (by omega)
            rw [List.singleton_append, this]
            rw [if_neg hn0] at h
            exact h.1
          · rw [ByteArray.size_append, hz1]
            omega
        have hB2 : Hid (Below w.heap.size w (wr.alloc (.cells #[.int .u8 (48 + (d : Int))] 5))) := hB.out.alloc hB.out.size _
        have hsz : ¬ (9223372036854775807 < z.size + s.size) := by have := hs.out.2; omega
        have hsz2 : z.size + s.size ≤ 9223372036854775807 := by omega
        have hqn : Hid (q < n ∧ q ≤ i) := ⟨by omega, by omega⟩
        clear hz hz1 hs hdn hq9
        go_wp2_with fail
        go_roundw
        case rel => exact ⟨q, _, hqn.out.2, rfl, rfl, hs2, hB2⟩
        case measure => simp [RowKit.intOf]; exact hqn.out.1
theorem dec0 : decDigits 0 = [48] := by
  rw [decDigits.eq_def, dif_pos (by omega)]
  rfl
theorem itoa_nat (i : Nat) : itoa (i : Int) = decDigits i := by
  unfold itoa
  rw [if_neg (by omega), Int.toNat_natCast]
theorem bitoa_any (i : Nat) (hi : i < 1000000) (w : World) : Calls Tryd.prog 33 #[.int .i64 (i : Int)] w fun e w' => e = .returned (.string ⟨(itoa (i : Int)).toArray⟩) ∧ Below w.heap.size w w' := by
  rw [itoa_nat]
  exact bitoa_gen decDigits dec0 (fun n t h => dec_step n h t) i hi w
set_option maxHeartbeats 2000000 in
set_option maxRecDepth 100000 in
theorem has_any (s : S4) (hs : OkS s) (b : Nat) (hb : b < 256) (w : World) : Calls Tryd.prog 32 #[setV s, .int .u8 (b : Int)] w fun e w' => e = .returned (.bool (bitS s b == 1)) ∧ Below w.heap.size w w' := by
  have H := St.start Nope w
  obtain ⟨q, hq⟩ : ∃ q, q = b / 64 := ⟨_, rfl⟩
  obtain ⟨r, hr⟩ : ∃ r, r = b % 64 := ⟨_, rfl⟩
  have hq4 : q < 4 := by omega
  have hr64 : r < 64 := by omega
  have e1 : (b : Int) / 64 = (q : Int) := by omega
  have e2 : (b : Int) % 64 = (r : Int) := by omega
  have e3 : (b : Int).tdiv 64 = (q : Int) := by rw [Int.tdiv_eq_ediv_of_nonneg (by omega)]; omega
  have e4 : (b : Int).tmod 64 = (r : Int) := by rw [Int.tmod_eq_emod_of_nonneg (by omega)]; omega
  have u1 : IntKind.u8.wrap (q : Int) = (q : Int) := by simp [IntKind.wrap, IntKind.signed, IntKind.bits]; omega
  have u2 : IntKind.u8.wrap (r : Int) = (r : Int) := by simp [IntKind.wrap, IntKind.signed, IntKind.bits]; omega
  have i1 : (q : Int) < 4 := by omega
  replace hq := hide hq
  replace hr := hide hr
  go_enter Tryd.func32, Tryd.ntmps32
  go_wp2_with (first | ((with_reducible refine at_box 24 ?_); refine wl_box25 H rfl ?_; clear H; intro g w1 H p1 p2; have c0 := H.cell 0 q rfl (v := .int .u64 (s.get q)) (by rcases (show q = 0 ∨ q = 1 ∨ q = 2 ∨ q = 3 by omega) with rfl | rfl | rfl | rfl <;> rfl)))
  go_ret
  refine ⟨?_, H.below⟩
  obtain ⟨p1, p2⟩ := hs q hq4
  obtain ⟨z, hz⟩ : ∃ z : Nat, s.get q = (z : Int) := ⟨(s.get q).toNat, by omega⟩
  have e5 : bitS s b = z / 2 ^ r % 2 := by
    unfold bitS
    rw [← hq.out, ← hr.out, hz]
    rfl
  rw [e5, hz]
  have e6 : ((z : Int) / 2 ^ r) = ((z / 2 ^ r : Nat) : Int) := by push_cast; rfl
  rw [e6]
  generalize z / 2 ^ r = y
  rw [Int.tmod_eq_emod_of_nonneg (by omega)]
  have e7 : ((y : Int) % 2 == 1) = (y % 2 == 1) := by
    rw [Bool.eq_iff_iff]
    simp
    omega
  rw [e7]
  rfl
end Go.Proofs.YtkgegjnkkbgghaaDoor
