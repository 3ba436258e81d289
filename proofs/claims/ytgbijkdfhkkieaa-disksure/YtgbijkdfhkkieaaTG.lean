/-
  base.Itoa of small numbers; Names of a disk without power.
-/
import Derived.Test.YtgbijkdfhkkieaaTF
namespace Go.Proofs.Ytgbijkdfhkkieaa
open Go.RowKit Go.Maps Go.Lib
set_option linter.unusedVariables false
set_option linter.unusedSimpArgs false
/-- Digits alone. -/
def Dig (s : ByteArray) : Prop := ∀ c ∈ s.data.toList, 48 ≤ c.toNat ∧ c.toNat ≤ 57
theorem dig_app {a b : ByteArray} (ha : Dig a) (hb : Dig b) : Dig (a ++ b) := by
  intro c hc
  rw [ByteArray.data_append, Array.toList_append] at hc
  rcases List.mem_append.1 hc with hc | hc
  · exact ha c hc
  · exact hb c hc
theorem dig_one {x : Int} (h : 48 ≤ x ∧ x ≤ 57) : Dig (strOfNums [x]) ∧ (strOfNums [x]).size = 1 := by
  refine ⟨fun c hc => ?_, rfl⟩
  have : c = UInt8.ofNat x.toNat := by simpa [strOfNums] using hc
  rw [this, UInt8.toNat_ofNat']
  omega
theorem nameOk_of {s : ByteArray} (h0 : 0 < s.size) (h1 : s.size ≤ 64) (h2 : ∀ c ∈ s.data.toList, 33 ≤ c.toNat ∧ c.toNat ≤ 126) : nameOk s = true := by
  unfold nameOk
  simp only [h0, h1, Bool.and_eq_true, decide_true, and_self, true_and, List.all_eq_true, List.mem_range, decide_eq_true_eq]
  intro k hk
  rw [← byt_eq hk]
  have := h2 (s[k]'hk) (by
    show s.data[k] ∈ s.data.toList
    simp)
  omega
theorem name_x {s : ByteArray} (h : Dig s) (hs : s.size ≤ 2) : nameOk (⟨#[120]⟩ ++ s) = true := by
  have e : (⟨#[120]⟩ ++ s : ByteArray).size = 1 + s.size := by rw [ByteArray.size_append]; rfl
  refine nameOk_of (by omega) (by omega) fun c hc => ?_
  rw [ByteArray.data_append, Array.toList_append] at hc
  rcases List.mem_append.1 hc with hc | hc
  · have : c = 120 := by simpa using hc
    rw [this]; decide
  · have := h c hc; omega
set_option maxHeartbeats 2000000 in
set_option maxRecDepth 100000 in
theorem itoa_any (w : World) (i : Nat) (hi : i < 40) : Calls Try.prog 29 #[.int .i64 (i : Int)] w fun e w' => ∃ s, e = .returned (.string s) ∧ Dig s ∧ s.size ≤ 2 ∧ Below w.heap.size w w' := by
  by_cases h0 : i = 0
  · subst h0
    have e0 : ((0 : Nat) : Int) = 0 := rfl
    rw [e0]
    go_enter Try.func29, Try.ntmps29
    go_wp2
    go_ret
    exact ⟨_, rfl, (fun c hc => by have : c = 48 := by simpa using hc
                                   rw [this]; decide), by decide, Below.refl _ _⟩
  · have i0 : ¬ ((i : Int) = 0) := by omega
    have i1 : ((i : Int) == 0) = false := by simpa using h0
    have i3 : ¬ ((i : Int) < 0) := by omega
    go_enter Try.func29, Try.ntmps29
    go_wp2_with fail
    go_loopw [3, 4] (fun ss v wr => ∃ (n : Nat) (s : ByteArray), n ≤ 39 ∧ ss = .string s ∧ v = .int .i64 (n : Int) ∧ Hid (Dig s ∧ s.size ≤ 2 ∧ (0 < n → s.size ≤ 1) ∧ (10 ≤ n → s.size = 0)) ∧ Hid (Below w.heap.size w wr)) (fun _ v _ => (intOf v).toNat)
    case atStart => exact ⟨i, _, by omega, rfl, rfl, ⟨fun c hc => by simp at hc, by decide, fun _ => by decide, fun _ => by decide⟩, Below.refl _ _⟩
    case round =>
      obtain ⟨n, s, hn, rfl, rfl, hs, hB⟩ := hrel
      by_cases hn0 : n = 0
      · subst hn0
        have e0 : ((0 : Nat) : Int) = 0 := rfl
        rw [e0]
        go_wp2_with fail
        go_ret
        exact ⟨s, rfl, hs.out.1, hs.out.2.1, hB.out⟩
      · have j0 : ¬ ((n : Int) = 0) := by omega
        have j1 : ((n : Int) == 0) = false := by simpa using hn0
        obtain ⟨d, hd⟩ : ∃ d : Nat, (n : Int).tmod 10 = (d : Int) := ⟨n % 10, by rw [Int.tmod_eq_emod_of_nonneg (by omega)]; omega⟩
        obtain ⟨q, hq⟩ : ∃ q : Nat, (n : Int).tdiv 10 = (q : Int) := ⟨n / 10, by rw [Int.tdiv_eq_ediv_of_nonneg (by omega)]; omega⟩
        have hd9 : d ≤ 9 := by rw [Int.tmod_eq_emod_of_nonneg (by omega)] at hd; omega
        have hq9 : q = n / 10 := by rw [Int.tdiv_eq_ediv_of_nonneg (by omega)] at hq; omega
        have j2 : ¬ ((d : Int) < 0) := by omega
        have hq40 : q ≤ 39 := by omega
        have hqw : wrap64 (q : Int) = (q : Int) := w64 _ (by omega)
        have hu : IntKind.u8.wrap (48 + (d : Int)) = 48 + (d : Int) := by simp [IntKind.wrap, IntKind.signed, IntKind.bits]; omega
        have HH := run_string (has_one wr (48 + (d : Int)) (by omega))
        obtain ⟨g1, g2⟩ := dig_one (x := 48 + (d : Int)) (by omega)
        generalize strOfNums [48 + (d : Int)] = z at HH g1 g2
        have hs2 : Hid (Dig (z ++ s) ∧ (z ++ s).size ≤ 2 ∧ (0 < q → (z ++ s).size ≤ 1) ∧ (10 ≤ q → (z ++ s).size = 0)) := by
          have h := hs.out
          have e : (z ++ s).size = 1 + s.size := by rw [ByteArray.size_append, g2]
          refine ⟨dig_app g1 h.1, ?_, fun hp => ?_, fun hp => by omega⟩
          · have := h.2.2.1 (by omega); omega
          · have := h.2.2.2 (by omega); omega
        have hB2 : Hid (Below w.heap.size w (wr.alloc (.cells #[.int .u8 (48 + (d : Int))] 5))) := hB.out.alloc hB.out.size _
        have hsz : ¬ (9223372036854775807 < z.size + s.size) := by have := hs.out.2.1; omega
        have hsz2 : z.size + s.size ≤ 9223372036854775807 := by omega
        clear g1 g2 hs
        replace hq9 := hide hq9
        go_wp2_with fail
        go_roundw
        case rel => exact ⟨q, _, by have := hq9.out; omega, rfl, rfl, hs2, hB2⟩
        case measure => simp [intOf]; have := hq9.out; omega
section
variable {w w' : World} {d : Nat} {m : M} {T : Nat → Prop}
set_option maxHeartbeats 1000000 in
theorem names_gone (h : Disk w d m T) (hg : m.gone = true) : Calls Try.prog 21 #[ptr d] w fun e w' => e = .returned (.slice none 0 0) ∧ w' = w := by
  obtain ⟨bf, bs, V, h⟩ := h
  obtain ⟨c0, c1, c2, c3, c4, c5, c6⟩ := h.cs
  rw [hg] at c1
  have IM := hide (isMade_any h)
  clear h
  go_enter Try.func21, Try.ntmps21
  go_wp2_with fail
  refine IM.out.mono ?_
  rintro e w1 ⟨rfl, hw⟩; replace hw := hw.symm; subst hw
  go_wp2_with fail
  go_ret
  exact ⟨rfl, rfl⟩
end
end Go.Proofs.Ytgbijkdfhkkieaa
