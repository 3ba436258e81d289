/-
  filled.
-/
import Derived.Test.YtlmpndmceiihaaaF
namespace Go.Proofs.Ytlmpndmceiihaaa
open Go.RowKit
set_option linter.unusedVariables false
set_option linter.unusedSimpArgs false

def filB (L : List Lab) : List Lab := L.filter fun x => !decide (x.2 = ByteArray.empty)
theorem filB_len (L : List Lab) : (filB L).length ≤ L.length := List.length_filter_le _ _
theorem take_succ_getD {L : List Lab} {k : Nat} (hk : k < L.length) : L.take (k + 1) = L.take k ++ [L.getD k noLab] := by
  rw [List.take_add_one, List.getElem?_eq_getElem hk]
  simp [List.getD, List.getElem?_eq_getElem hk]
theorem filB_yes {L : List Lab} {k : Nat} (hk : k < L.length) (h : (L.getD k noLab).2 ≠ ByteArray.empty) : filB (L.take (k + 1)) = filB (L.take k) ++ [L.getD k noLab] := by
  rw [take_succ_getD hk]
  unfold filB
  rw [List.filter_append, List.filter_cons, if_pos (by simpa using h)]
  rfl
theorem filB_no {L : List Lab} {k : Nat} (hk : k < L.length) (h : (L.getD k noLab).2 = ByteArray.empty) : filB (L.take (k + 1)) = filB (L.take k) := by
  rw [take_succ_getD hk]
  unfold filB
  rw [List.filter_append, List.filter_cons, if_neg (by simpa using h)]
  simp
/-- A row of labels that is the call's own. -/
def OwnLabs (w : World) (L : List Lab) (e : Ending) (w' : World) : Prop := ∃ v, e = .returned v ∧ w'.ownsRow w.heap.size 38 2 v L.length (flat L) ∧ Below w.heap.size w w'

set_option maxRecDepth 100000 in
set_option maxHeartbeats 4000000 in
theorem filled_any (w : World) (a : Option Addr) (len cap : Nat) (L : List Lab) (h : HasB w a len cap L) (hl : len ≤ 1000) :
    Calls Try.prog 20 #[.slice a len cap] w (OwnLabs w (filB L)) := by
  have hlen := h.hlen
  have hcells := hide h.cells
  have hcap := h.capb
  have hle := h.le
  unfold maxLen at hcap
  clear h
  go_enter Try.func20, Try.ntmps20
  go_wp2_with fail
  go_loopw [3, 8] (fun v i wr => ∃ (k n : Nat) (ao : Option Addr) (co : Nat), k ≤ len ∧ n ≤ k ∧ v = .slice ao n co ∧ i = .int .i64 (k : Int) ∧ Hid (wr.ownsRow w.heap.size 38 2 (.slice ao n co) n (flat (filB (L.take k)))) ∧ Hid (Below w.heap.size w wr)) (fun _ i _ => len - (intOf i).toNat)
  case atStart => exact ⟨0, 0, none, 0, Nat.zero_le _, Nat.le_refl _, rfl, rfl, (World.ownsRow_nil w w.heap.size 38 2 : w.ownsRow w.heap.size 38 2 (.slice none 0 0) 0 []), Below.refl _ w⟩
  case round =>
    obtain ⟨k, n, ao, co, hk, hnk, rfl, rfl, hR, hB⟩ := hrel
    by_cases hkl : k < len
    · obtain ⟨b, off, rfl, hbl, hcl⟩ := hcells.out (by omega)
      have i1 : (k : Int) < len := by omega
      have hsz := hB.out.size
      have c0 : wr.cell? ⟨b, off + k * 2, none⟩ = some (.string (L.getD k noLab).1) := (hB.out.cell (p := ⟨b, off + k * 2, none⟩) hbl).trans (hcl k hkl).1
      have c1 : wr.cell? ⟨b, off + k * 2 + 1, none⟩ = some (.string (L.getD k noLab).2) := (hB.out.cell (p := ⟨b, off + k * 2 + 1, none⟩) hbl).trans (hcl k hkl).2
      have fy := filB_yes (L := L) (k := k) (by omega)
      have fn := filB_no (L := L) (k := k) (by omega)
      generalize L.getD k noLab = x at c0 c1 fy fn
      obtain ⟨x0, x1⟩ := x
      simp only at c0 c1 fy fn
      clear hcl
      by_cases he : x1 = ByteArray.empty
      · have hst := hide (fn he)
        have he2 : (ByteArray.toList x1).isEmpty = true := by rw [he]; decide +kernel
        clear he fy fn
        go_wp2_with fail
        go_roundw
        case rel => exact ⟨k + 1, n, ao, co, by omega, by omega, rfl, by go_num, (by rw [hst.out]; exact hR.out.alloc _ : (wr.alloc (.cells #[.string x0, .string x1] 38)).ownsRow w.heap.size 38 2 (.slice ao n co) n (flat (filB (L.take (k + 1))))), hB.out.alloc hsz _⟩
        case measure => simp [intOf]; omega
      · have hst := hide (fy he)
        have he2 : (ByteArray.toList x1).isEmpty = false := by
          cases hx : (ByteArray.toList x1).isEmpty with
          | false => rfl
          | true =>
            exfalso
            have h2 : ByteArray.toList x1 = [] := List.isEmpty_iff.1 hx
            exact he ((str_ext _ _).1 (h2.trans (show ([] : List UInt8) = ByteArray.toList ByteArray.empty by decide +kernel)))
        clear he fy fn
        have c2 := cells2 (wr.alloc (.cells #[.string x0, .string x1] 38)) (.string x0) (.string x1) 38
        rw [World.size_alloc] at c2
        replace c2 := hide c2
        have hZ : Hid (w.heap.size ≤ ((wr.alloc (.cells #[.string x0, .string x1] 38)).alloc (.cells #[.string x0, .string x1] 38)).heap.size) := by show _ ≤ _; simp; omega
        go_wp2_with (first
          | (refine wpList_appB rfl (.tmp 15) (.tmp 17) rfl w.heap.size _ n (filB (L.take k)) rfl ((hR.out.alloc _).alloc _) (wr.heap.size + 1) 1 (x0, x1) rfl c2.out.1 c2.out.2 (by omega) hZ.out ?_
             intro v8 W8 O8 G8
             have B8 := hide (((hB.out.alloc hB.out.size _).alloc (by have := hB.out.size; simp; omega) _).grown G8 hZ.out (fun q e => (hR.out.lt q e).1))
             obtain ⟨a8, c8, e8⟩ := slice_of_owns O8
             subst e8
             rw [← hst.out] at O8
             replace O8 := hide O8
             clear G8))
        go_roundw
        case rel => exact ⟨k + 1, n + 1, a8, c8, by omega, by omega, rfl, by go_num, O8, B8⟩
        case measure => simp [intOf]; omega
    · obtain rfl : k = len := by omega
      have hR2 := hR.out
      rw [List.take_of_length_le (by omega)] at hR2
      have hlen2 : n = (filB L).length := by
        obtain ⟨_, _, e, H⟩ := hasB_of_owns hR2
        exact H.hlen.symm
      have fin : Hid (OwnLabs w (filB L) (.returned (.slice ao n co)) wr) := ⟨_, rfl, by rw [← hlen2]; exact hR2, hB.out⟩
      clear hR2 hlen2
      go_wp2_with fail
      go_ret
      exact fin.out
end Go.Proofs.Ytlmpndmceiihaaa
