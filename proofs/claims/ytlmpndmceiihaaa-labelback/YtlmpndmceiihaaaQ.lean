/-
  CompactFunc where no two neighbours have one name.
-/
import Derived.Test.YtlmpndmceiihaaaP
namespace Go.Proofs.Ytlmpndmceiihaaa
open Go.RowKit Go.Shelf Go.Lib
set_option linter.unusedVariables false
set_option linter.unusedSimpArgs false

set_option maxHeartbeats 2000000 in
theorem compact_apart (w : World) (a : Option Addr) (len cap : Nat) (L : List Lab) (h : HasB w a len cap L) (hd : ∀ i, i + 1 < len → (L.getD (i + 1) noLab).1 ≠ (L.getD i noLab).1) :
    Calls Try.prog 34 #[.slice a len cap, .func (.func 35) #[] #[]] w fun e w' => e = .returned (.slice a len cap) ∧ Below w.heap.size w w' := by
  have hl := h.hlen
  have hcap := h.capb
  have hle := h.le
  unfold maxLen at hcap
  have hc := hide h.cells
  replace hd := hide hd
  clear h
  by_cases h2 : len < 2
  · have i1 : (len : Int) < 2 := by omega
    go_enter Try.func34, Try.ntmps34
    go_wp2
    go_ret
    exact ⟨rfl, Below.refl _ _⟩
  · have i1 : ¬ ((len : Int) < 2) := by omega
    go_enter Try.func34, Try.ntmps34
    go_wp2
    go_loopw [5] (fun i wr => ∃ k : Nat, 1 ≤ k ∧ k ≤ len ∧ i = .int .i64 k ∧ Hid (Below w.heap.size w wr)) (fun i _ => len - (intOf i).toNat)
    case atStart => exact ⟨1, Nat.le_refl _, by omega, rfl, Below.refl _ w⟩
    case round =>
      obtain ⟨k, hk1, hk, rfl, hB⟩ := hrel
      by_cases hkl : k < len
      · obtain ⟨j, hkj⟩ : ∃ j, k = j + 1 := ⟨k - 1, by omega⟩
        obtain ⟨b, off, rfl, hbl, hcl⟩ := hc.out (by omega)
        have i2 : (k : Int) < len := by omega
        have i3 : (k : Int) - 1 = (j : Int) := by omega
        have i4 : (j : Int) < len := by omega
        have i5 : IntKind.i64.wrap (j : Int) = (j : Int) := by rw [IntKind.wrap_i64]; omega
        have i6 : (0 : Int) ≤ (k : Int) := by omega
        have i7 : (0 : Int) ≤ (j : Int) := by omega
        have hsz := hB.out.size
        have hne := hd.out j (by omega)
        rw [← hkj] at hne
        have hjl : j < len := by omega
        have hj2 : Hid (k + 1 ≤ len ∧ 1 ≤ k) := ⟨hkl, hk1⟩
        replace hkj := hide hkj
        have c0 : wr.drew.cell? ⟨b, off + k * 2, none⟩ = some (.string (L.getD k noLab).1) := (hB.out.cell (p := ⟨b, off + k * 2, none⟩) hbl).trans (hcl k hkl).1
        have c1 : wr.drew.cell? ⟨b, off + k * 2 + 1, none⟩ = some (.string (L.getD k noLab).2) := (hB.out.cell (p := ⟨b, off + k * 2 + 1, none⟩) hbl).trans (hcl k hkl).2
        have d0 : wr.drew.cell? ⟨b, off + j * 2, none⟩ = some (.string (L.getD j noLab).1) := (hB.out.cell (p := ⟨b, off + j * 2, none⟩) hbl).trans (hcl j hjl).1
        have d1 : wr.drew.cell? ⟨b, off + j * 2 + 1, none⟩ = some (.string (L.getD j noLab).2) := (hB.out.cell (p := ⟨b, off + j * 2 + 1, none⟩) hbl).trans (hcl j hjl).2
        generalize L.getD k noLab = x at c0 c1 hne
        generalize L.getD j noLab = y at d0 d1 hne
        obtain ⟨x0, x1⟩ := x
        obtain ⟨y0, y1⟩ := y
        simp only at c0 c1 d0 d1 hne
        have hcall := hide (fun W => sameName_any (x0, x1) (y0, y1) W)
        simp only [decide_eq_false hne] at hcall
        replace hne := hide hne
        clear hcl
        go_wp2_with fail
        go_region_held3 (fun w' => (w'.cell? ⟨b, off + k * 2, none⟩ = some (.string x0) ∧ w'.cell? ⟨b, off + k * 2 + 1, none⟩ = some (.string x1)) ∧ w'.cell? ⟨b, off + j * 2, none⟩ = some (.string y0) ∧ w'.cell? ⟨b, off + j * 2 + 1, none⟩ = some (.string y1)) (first | (exact ⟨⟨c0, c1⟩, d0, d1⟩) | (exact E3)) (first
          | (go_at_call 35; refine (hcall.out _).mono ?_; rintro e W3 ⟨rfl, hW⟩
             have B3 : Below wr.heap.size wr W3 := by rw [hW]; exact (((Below.refl _ wr).drew).alloc (Nat.le_refl _) _).alloc (by simp) _
             have E3 := And.intro (And.intro ((B3.cell (p := ⟨b, off + k * 2, none⟩) (by show b < _; omega)).trans c0) ((B3.cell (p := ⟨b, off + k * 2 + 1, none⟩) (by show b < _; omega)).trans c1)) (And.intro ((B3.cell (p := ⟨b, off + j * 2, none⟩) (by show b < _; omega)).trans d0) ((B3.cell (p := ⟨b, off + j * 2 + 1, none⟩) (by show b < _; omega)).trans d1))
             clear hW))
        have T3 : Hid (Below w.heap.size w W3) := hB.out.trans (B3.mono hsz)
        clear E3 B3 c0 c1 d0 d1
        go_wp2_with fail
        go_roundw
        case rel => exact ⟨k + 1, by omega, by omega, by go_num, T3⟩
        case measure => simp [intOf]; omega
      · obtain rfl : k = len := by omega
        go_wp2
        go_ret
        exact ⟨rfl, hB.out⟩
end Go.Proofs.Ytlmpndmceiihaaa
