/-
  The reference's without.
-/
import Derived.Test.YtgbijkdfhkkieaaRB
namespace Go.Proofs.Ytgbijkdfhkkieaa
open Go.RowKit Go.Maps Go.Lib
set_option linter.unusedVariables false
set_option linter.unusedSimpArgs false

/-- Entries come out, in memory of their own: all of a kind, no more than N. -/
def Ents (w : World) (Φ : Ent → Prop) (N : Nat) (e : Ending) (w' : World) : Prop := ∃ a n c L, e = .returned (.slice a n c) ∧ HasE w' a n c L ∧ (∀ x ∈ L, Φ x) ∧ n ≤ N ∧ Below w.heap.size w w' ∧ ∀ k, (Value.slice a n c).ownBlock = some k → w.heap.size ≤ k ∧ k < w'.heap.size
theorem ents_of {w wr : World} {Φ : Ent → Prop} {N n c : Nat} {ao : Option Addr} {L : List Ent} (hR : wr.ownsRow w.heap.size 105 2 (.slice ao n c) n (flatE L)) (hB : Below w.heap.size w wr) (hΦ : ∀ x ∈ L, Φ x) (hN : n ≤ N) : Ents w Φ N (.returned (.slice ao n c)) wr := by
  obtain ⟨a2, c2, e2, H⟩ := hasE_of_owns hR
  cases e2
  exact ⟨_, n, _, L, rfl, H, hΦ, hN, hB, fun k hk => hR.lt k hk⟩
set_option maxHeartbeats 4000000 in
set_option maxRecDepth 100000 in
theorem without_any {w : World} {a : Option Addr} {len cap : Nat} {L : List Ent} (h : HasE w a len cap L) (hl : len ≤ 1000000) (s : ByteArray) : Calls Try.prog 76 #[.slice a len cap, .string s] w (Ents w (fun x => x ∈ L) len) := by
  have hlen := h.hlen
  have hcells := hide h.cells
  clear h
  have O1 := hide (ownsE_nil w w.heap.size (Nat.le_refl _))
  have B1 : Hid (Below w.heap.size w (w.alloc (.cells #[] 105))) := (Below.refl _ w).alloc (Nat.le_refl _) _
  go_enter Try.func76, Try.ntmps76
  go_wp2_with fail
  go_loopw [5, 6] (fun vv i wr => ∃ (k n : Nat) (ao : Option Addr) (co : Nat), k ≤ len ∧ n ≤ k ∧ vv = .slice ao n co ∧ i = .int .i64 (k : Int) ∧ Hid (∃ M : List Ent, wr.ownsRow w.heap.size 105 2 (.slice ao n co) n (flatE M) ∧ ∀ x ∈ M, x ∈ L) ∧ Hid (Below w.heap.size w wr)) (fun _ i _ => len - (intOf i).toNat)
  case atStart => exact ⟨0, 0, _, _, Nat.zero_le _, Nat.le_refl _, rfl, rfl, ⟨[], O1.out, fun x hx => by cases hx⟩, B1⟩
  case round =>
    clear O1 B1
    obtain ⟨k, n, ao, co, hk, hnk, rfl, rfl, hM, hB⟩ := hrel
    by_cases hkl : k < len
    · obtain ⟨b, off, rfl, hbl, hcl⟩ := hcells.out (by omega)
      have i1 : (k : Int) < len := by omega
      have hsz := hB.out.size
      have c0 : wr.cell? ⟨b, off + k * 2, none⟩ = some (.string (L.getD k noEnt).1) := (hB.out.cell (p := ⟨b, off + k * 2, none⟩) hbl).trans (hcl k hkl).1
      have c1 : wr.cell? ⟨b, off + k * 2 + 1, none⟩ = some (.int .i64 ((L.getD k noEnt).2 : Int)) := (hB.out.cell (p := ⟨b, off + k * 2 + 1, none⟩) hbl).trans (hcl k hkl).2
      have hbl2 : Hid (b < w.heap.size) := hbl
      have hmem := hide (getD_mem (L := L) (k := k) (by omega))
      generalize L.getD k noEnt = x at c0 c1 hmem
      obtain ⟨x0, x1⟩ := x
      simp only at c0 c1
      clear hcl
      by_cases he : x0 = s
      · have e1 : (ByteArray.toList x0 == ByteArray.toList s) = true := by rw [he]; simp
        have e2 : (ByteArray.toList x0 != ByteArray.toList s) = false := by rw [he]; simp
        replace he := hide he
        go_wp2_with fail
        go_roundw
        case rel => exact ⟨k + 1, n, ao, co, by omega, by omega, rfl, by go_num, hM, hB⟩
        case measure => simp [intOf]; omega
      · have hne : ¬ ByteArray.toList x0 = ByteArray.toList s := fun e => he ((str_ext _ _).1 e)
        have e2 : (ByteArray.toList x0 != ByteArray.toList s) = true := bne_iff_ne.2 hne
        have e1 : (ByteArray.toList x0 == ByteArray.toList s) = false := beq_eq_false_iff_ne.2 hne
        replace he := hide he
        replace hne := hide hne
        obtain ⟨M, hR, hMm⟩ := hM.out
        replace hR := hide hR
        replace hMm := hide hMm
        clear hM
        have c2 := hide (cells2 wr (.string x0) (.int .i64 (x1 : Int)) 105)
        have hZ : Hid (w.heap.size ≤ (wr.alloc (.cells #[.string x0, .int .i64 (x1 : Int)] 105)).heap.size) := by show _ ≤ _; simp; omega
        go_wp2_with (first
          | (refine wpList_appE rfl (.tmp 21) (.tmp 26) rfl w.heap.size _ n M rfl (hR.out.alloc _) wr.heap.size 1 (x0, x1) rfl c2.out.1 c2.out.2 (by omega) hZ.out ?_
             intro v8 W8 O8 G8
             have B8 := hide ((hB.out.alloc hB.out.size _).grown G8 hZ.out (fun q e => (hR.out.lt q e).1))
             obtain ⟨a8, c8, e8⟩ := slice_of_owns2 O8
             subst e8
             replace O8 := hide O8
             clear G8))
        go_roundw
        case rel => exact ⟨k + 1, n + 1, a8, c8, by omega, by omega, rfl, by go_num, ⟨M ++ [(x0, x1)], O8.out, fun z hz => by
          rcases List.mem_append.1 hz with hz | hz
          · exact hMm.out z hz
          · rw [List.mem_singleton.1 hz]; exact hmem.out⟩, B8⟩
        case measure => simp [intOf]; omega
    · have i1 : ¬ ((k : Int) < len) := by omega
      go_wp2_with fail
      go_ret
      obtain ⟨M, hR, hMm⟩ := hM.out
      exact ents_of hR hB.out hMm (by omega)
end Go.Proofs.Ytgbijkdfhkkieaa
