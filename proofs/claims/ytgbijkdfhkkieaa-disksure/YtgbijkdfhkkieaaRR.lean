/-
  The reference's pick, wide.
-/
import Derived.Test.YtgbijkdfhkkieaaRQ
namespace Go.Proofs.Ytgbijkdfhkkieaa
open Go.RowKit Go.Maps Go.Lib
set_option linter.unusedVariables false
set_option linter.unusedSimpArgs false
set_option maxHeartbeats 1000000 in
set_option maxRecDepth 100000 in
theorem pick_any (w : World) (a : Option Addr) (n c : Nat) (l : List Int) (h : Hi w a n c l) (k : Nat) (hk : k ≤ 1099511627776) :
    Calls Try.prog 77 #[.slice a n c, .int .i64 (k : Int)] w fun e w' => ∃ v : Int, e = .returned (.int .i64 v) ∧ (0 ≤ v ∧ v ≤ 9223372036854775807) ∧ w' = w := by
  by_cases hkn : k < n
  · have i1 : (k : Int) < (n : Int) := by omega
    obtain ⟨b, off, rfl, hb, hc⟩ := h.cells (by omega)
    have hcl := hc k hkn
    have hm := h.ints (l.getD k 0) (by
      rw [List.getD_eq_getElem?_getD, List.getElem?_eq_getElem (by have := h.hlen; omega)]
      exact List.getElem_mem _)
    clear hc h
    generalize l.getD k 0 = v at hcl hm
    by_cases hv : 0 < v
    · go_enter Try.func77, Try.ntmps77
      go_wp2
      go_ret
      exact ⟨v, rfl, by omega, rfl⟩
    · go_enter Try.func77, Try.ntmps77
      go_wp2
      go_ret
      exact ⟨0, rfl, by omega, rfl⟩
  · have i1 : ¬ ((k : Int) < (n : Int)) := by omega
    clear h
    go_enter Try.func77, Try.ntmps77
    go_wp2
    go_ret
    exact ⟨0, rfl, by omega, rfl⟩
/-- Bytes of so many, somewhere new. -/
def Wd (w : World) (n : Nat) (e : Ending) (w' : World) : Prop := ∃ g l, e = .returned (.slice (some ⟨g, 0, none⟩) n n) ∧ Has w' (some ⟨g, 0, none⟩) n n l ∧ Below w.heap.size w w' ∧ w.heap.size ≤ g
set_option maxHeartbeats 2000000 in
set_option maxRecDepth 100000 in
theorem wide_any (w : World) (a : Option Addr) (len c : Nat) (l : List Int) (h : Has w a len c l) (n : Nat) (hn : n ≤ 4194304) :
    Calls Try.prog 78 #[.slice a len c, .int .i64 (n : Int)] w (Wd w n) := by
  have hby := hide h.bytes
  have hlen := hide h.hlen
  have hcells := hide h.cells
  clear h
  go_enter Try.func78, Try.ntmps78
  go_wp2_with (refine wpList_make2 rfl (.tmp 7) (.tmp 7) rfl n n _ _ rfl rfl rfl rfl (Nat.le_refl _) (by omega) ?_; intro w2 O2 B2; replace O2 := hide O2; replace B2 := hide B2)
  go_loopw [6] (fun i wr => ∃ k : Nat, k ≤ n ∧ i = .int .i64 (k : Int) ∧ Hid (∃ L : List Int, wr.ownsRow w.heap.size 5 1 (.slice (some ⟨w.heap.size, 0, none⟩) n n) n (L.map (Value.int .u8)) ∧ Byt L) ∧ Hid (Below w.heap.size w wr)) (fun i _ => n - (intOf i).toNat)
  case atStart => exact ⟨0, Nat.zero_le _, rfl, ⟨_, O2.out, fun x hx => by rw [List.eq_of_mem_replicate hx]; omega⟩, B2⟩
  case round =>
    clear O2 B2
    obtain ⟨k, hk, rfl, hO, hB⟩ := hrel
    obtain ⟨L, O, hL⟩ := hO.out
    replace O := hide O
    replace hL := hide hL
    clear hO
    by_cases hkn : k < n
    · have i1 : (k : Int) < (n : Int) := by omega
      by_cases hkl : k < len
      · have i2 : (k : Int) < (len : Int) := by omega
        obtain ⟨b, off, rfl, hb, hc⟩ := hcells.out (by omega)
        have cl : wr.cell? ⟨b, off + k, none⟩ = some (.int .u8 (l.getD k 0)) := (hB.out.cell (p := ⟨b, off + k, none⟩) hb).trans (hc k hkl)
        have hv : 0 ≤ l.getD k 0 ∧ l.getD k 0 ≤ 255 := hby.out _ (by
          rw [List.getD_eq_getElem?_getD, List.getElem?_eq_getElem (by have := hlen.out; omega)]
          exact List.getElem_mem _)
        clear hc
        generalize l.getD k 0 = v at cl hv
        have hLl : L.length = n := by simpa using O.out.1
        have fz : wr.frozen? ⟨w.heap.size, k, none⟩ = false := by
          rcases O.out.2 with ⟨e1, _⟩ | ⟨g', cap, cur, e1, h2, h3, h4⟩
          · cases e1
          · cases e1
            exact frozen_of_row wr _ _ _ 5 h3
        have cc : ∃ u, wr.cell? ⟨w.heap.size, k, none⟩ = some u := by
          have := O.out.cells (g := w.heap.size) rfl k (.int .u8 (L.getD k 0)) (by
            simp [List.getD, List.getElem?_eq_getElem (show k < L.length by omega)])
          rw [add_plain, Nat.zero_add] at this
          exact ⟨_, this⟩
        obtain ⟨u, cc⟩ := cc
        have O3 : Hid ((wr.setCell ⟨w.heap.size, k, none⟩ (.int .u8 v)).ownsRow w.heap.size 5 1 (.slice (some ⟨w.heap.size, 0, none⟩) n n) n ((L.set k v).map (Value.int .u8))) := by
          show World.ownsRow _ _ _ _ _ _ _
          rw [List.map_set]
          exact owns_set O.out _
        have hL3 : Hid (Byt (L.set k v)) := fun x hx => by
          rcases List.mem_or_eq_of_mem_set hx with hx | hx
          · exact hL.out x hx
          · rw [hx]; exact hv
        have B3 : Hid (Below w.heap.size w (wr.setCell ⟨w.heap.size, k, none⟩ (.int .u8 v))) := hB.out.setCell (Nat.le_refl _) _
        clear hv hL O hb hLl
        go_wp2
        go_roundw
        case rel => exact ⟨k + 1, by omega, by go_num, ⟨_, O3.out, hL3.out⟩, B3⟩
        case measure => simp [intOf]; omega
      · have i2 : ¬ ((k : Int) < (len : Int)) := by omega
        go_wp2
        go_ret
        obtain ⟨a2, c2, e2, H2⟩ := has_of_owns O.out hL.out
        cases e2
        exact ⟨w.heap.size, L, rfl, H2, hB.out, Nat.le_refl _⟩
    · have i1 : ¬ ((k : Int) < (n : Int)) := by omega
      go_wp2
      go_ret
      obtain ⟨a2, c2, e2, H2⟩ := has_of_owns O.out hL.out
      cases e2
      exact ⟨w.heap.size, L, rfl, H2, hB.out, Nat.le_refl _⟩
end Go.Proofs.Ytgbijkdfhkkieaa
