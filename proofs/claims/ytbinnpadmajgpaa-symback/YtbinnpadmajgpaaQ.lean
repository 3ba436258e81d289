/-
  few.
-/
import Derived.Test.YtbinnpadmajgpaaO
import Derived.Test.YtbinnpadmajgpaaP
namespace Go.Proofs.Ytbinnpadmajgpaa
open Go.RowKit Go.Shelf
set_option linter.unusedVariables false
set_option linter.unusedSimpArgs false
set_option maxRecDepth 100000

/-- At most so many texts, none longer than that. -/
def fewL (l : List Tx) : List Tx := (l.take 60).map (fun s => s.take 257)
theorem fewL_len (l : List Tx) : (fewL l).length ≤ 60 := by unfold fewL; simp; omega
theorem fewL_sz (l : List Tx) : ∀ s ∈ fewL l, s.length ≤ 257 := by
  intro s hs
  obtain ⟨x, _, rfl⟩ := List.mem_map.1 hs
  simp; omega
theorem run_cutL (s : ByteArray) (i : Nat) (h : i ≤ s.size) (w : World) : (Instr.sliceAt 9 (.string s) none (some (.int .i64 (i : Int))) none).run Try.prog w = .ok (.string (s.extract 0 i)) w := by
  have hu := Try.underlying9
  have h1 : (i : Int) ≤ (s.size : Int) := by omega
  simp [go_sem, hu, h1]
theorem take_min (s : Tx) (q : Nat) (hq : min s.length 257 = q) : s.take q = s.take 257 := by
  rcases Nat.lt_or_ge s.length 257 with h | h
  · rw [List.take_of_length_le (by omega), List.take_of_length_le (by omega)]
  · rw [show q = 257 by omega]
theorem slice_str (s : Tx) (q : Nat) (h : q ≤ s.length) (e : s.take q = s.take 257) (w : World) : (Instr.sliceAt 9 (encStr s) none (some (.int .i64 (q : Int))) none).run Try.prog w = .ok (.string ⟨(s.take 257).toArray⟩) w := by
  have := run_cutL ⟨s.toArray⟩ q (by rw [str_size]; exact h) w
  rw [str_cut] at this
  simpa [e] using this
theorem ownT_push {w : World} {base : Nat} {v : Value} {k : Nat} {l : List Tx} (hown : w.ownsRow base 9 1 v k (l.map encStr)) (b : Tx) (hk : k + 1 ≤ 10000000) (hbase : base ≤ w.heap.size) :
    ∃ g cap w6, (Builtin.append_ #[22, 22] 22 #[v, .slice (some ⟨w.heap.size, 0, none⟩) 1 1]).run Try.prog (w.drew.alloc (.cells #[.string ⟨b.toArray⟩] 9)) = .ok (.slice (some ⟨g, 0, none⟩) (k + 1) cap) w6 ∧ w6.ownsRow base 9 1 (.slice (some ⟨g, 0, none⟩) (k + 1) cap) (k + 1) ((l ++ [b]).map encStr) ∧ (w.drew.alloc (.cells #[.string ⟨b.toArray⟩] 9)).grownBy w6 v.ownBlock := by
  obtain ⟨i, hi, hz, hs, hby⟩ := info_parts info9
  have ho1 : (w.drew.alloc (.cells #[.string ⟨b.toArray⟩] 9)).ownsRow base 9 1 v k (l.map encStr) := hown.drew.alloc _
  obtain ⟨v', w', r1, r2, r3, r4, _⟩ := run_append_own_at (P := Try.prog) (w.drew.alloc (.cells #[.string ⟨b.toArray⟩] 9)) base 22 22 9 i (.string ByteArray.empty) 1 16 Try.underlying22 hi hz hs hby rfl (by decide) v k (l.map encStr) ho1 ⟨w.heap.size, 0, none⟩ 1 1 [.string ⟨b.toArray⟩] rfl (fun j u hu => by
    have hj0 : j = 0 := by
      rcases Nat.lt_or_ge j 1 with h | h
      · omega
      · rw [List.getElem?_eq_none (by simpa using h)] at hu; cases hu
    subst hj0
    simp at hu
    subst hu
    rw [add_plain]
    have := cell_of_row _ w.heap.size 0 _ _ _ (heap_alloc_new w.drew (.cells #[.string ⟨b.toArray⟩] 9))
    simpa using this) (fun u hu => by rw [List.mem_singleton.1 hu]; rfl) (by unfold maxLen; omega) (by omega) (by simp; omega)
  rcases r2.2 with ⟨e, h0⟩ | ⟨g, cap, cur, e, _⟩
  · omega
  · subst e
    exact ⟨g, cap, w', r1, by simpa [encStr] using r2, r3⟩
set_option maxHeartbeats 2000000 in
theorem few_any (w : World) (a : Option Addr) (n c : Nat) (l : List Tx) (h : HasA w a n l) : Calls Try.prog 8 #[.slice a n c] w fun e w' => ∃ v, e = .returned v ∧ w'.ownsRow w.heap.size 9 1 v (fewL l).length ((fewL l).map encStr) ∧ (∃ g c', v = .slice (some ⟨g, 0, none⟩) (fewL l).length c') ∧ Below w.heap.size w w' := by
  obtain ⟨M, hM⟩ : ∃ M, min n 60 = M := ⟨_, rfl⟩
  have hM1 : M ≤ n := by omega
  have hM2 : M ≤ 60 := by omega
  have hM3 := hide (show M = n ∨ M = 60 by omega)
  have hlen := hide h.hlen
  have hfl : Hid ((fewL l).length = M) := by
    show _ = _
    unfold fewL; rw [List.length_map, List.length_take, h.hlen]; omega
  have hnb := h.lenb
  unfold maxLen at hnb
  have ER : (w.alloc (.cells #[] 9)).ownsRow w.heap.size 9 1 (.slice (some ⟨w.heap.size, 0, none⟩) 0 0) 0 (([] : List Tx).map encStr) := empty_row w
  have BE : Hid (Below w.heap.size w (w.alloc (.cells #[] 9))) := (Below.refl _ _).alloc (Nat.le_refl _) _
  have hH := hide h
  replace ER := hide ER
  clear h hM
  go_enter Try.func8, Try.ntmps8
  go_wp2_with fail
  go_loopw [3, 4] (fun vv ii wr => ∃ (i g cc : Nat), i ≤ M ∧ ii = .int .i64 (i : Int) ∧ vv = .slice (some ⟨g, 0, none⟩) i cc ∧ Hid (wr.ownsRow w.heap.size 9 1 (.slice (some ⟨g, 0, none⟩) i cc) i (((l.take i).map (fun s => s.take 257)).map encStr)) ∧ Hid (Below w.heap.size w wr)) (fun _ ii _ => M - (intOf ii).toNat)
  case atStart => exact ⟨0, _, _, Nat.zero_le _, rfl, rfl, ER, BE⟩
  case round =>
    obtain ⟨i, g, cc, hi, rfl, rfl, O, B⟩ := hrel
    by_cases hlt : i < M
    · have j1 : (i : Int) < (n : Int) := by omega
      have j2 : (0 : Int) ≤ (i : Int) := by omega
      have j3 : (i : Int) < 60 := by omega
      obtain ⟨b, off, rfl, hb, c1⟩ := hH.out.cells i (by omega)
      have c1i : wr.drew.cell? ⟨b, off + i, none⟩ = some (encStr (l.getD i [])) := by
        have := (B.out.cell (p := ⟨b, off + i, none⟩) hb).trans c1
        simpa using this
      have hil : i < l.length := by rw [hlen.out]; omega
      have htk : Hid ((l.take (i + 1)).map (fun s => s.take 257) = (l.take i).map (fun s => s.take 257) ++ [(l.getD i []).take 257]) := by
        show _ = _
        rw [List.take_add_one, List.getElem?_eq_getElem hil, List.map_append]
        congr 1
        simp [List.getD, List.getElem?_eq_getElem hil]
      have hsz := hH.out.sizes (l.getD i []) (by simp [List.getD, List.getElem?_eq_getElem hil])
      generalize l.getD i [] = s at *
      obtain ⟨m, hm⟩ : ∃ m, s.length = m := ⟨_, rfl⟩
      obtain ⟨q, hq⟩ : ∃ q, min m 257 = q := ⟨_, rfl⟩
      have e1 : (if (257 : Int) < (m : Int) then (257 : Int) else (m : Int)) = (q : Int) := by split <;> omega
      have hsl : ∀ W, (Instr.sliceAt 9 (encStr s) none (some (.int .i64 (q : Int))) none).run Try.prog W = .ok (.string ⟨(s.take 257).toArray⟩) W := fun W => slice_str s q (by omega) (take_min s q (by rw [hm]; exact hq)) W
      obtain ⟨g6, c6, w6, hr, O6, G6⟩ := ownT_push O.out (s.take 257) (by omega) B.out.size
      have Bd : Below w.heap.size w (wr.drew.alloc (.cells #[.string ⟨(s.take 257).toArray⟩] 9)) := (below_drew' B.out).alloc (by simpa using B.out.size) _
      have B6 := hide (Bd.grown G6 (by have := B.out.size; simp; omega) (fun k e => (O.out.lt k e).1))
      have R := hide (reg8_5 wr (.slice (some ⟨g, 0, none⟩) i cc) (.slice (some ⟨g6, 0, none⟩) (i + 1) c6) w6 b off i n c m q s _ j1 (by rw [str_size, hm]) c1i e1 hsl hr)
      replace O6 := hide O6
      clear hr G6 Bd hsl e1 c1i c1 hil
      go_wp2_with fail
      refine R.out _ _ _ _ _ _ _ _ _ _ _ _ _ _ _ _ _ _ _ _ _ _ _ _ _ _ _ _ _ ?_
      clear R
      go_wp2_with fail
      go_roundw
      case rel => exact ⟨i + 1, g6, c6, hlt, by go_num, rfl, (by show World.ownsRow _ _ _ _ _ _ _; rw [htk.out]; exact O6.out), B6⟩
      case measure => simp [intOf]; omega
    · obtain rfl : i = M := by omega
      by_cases h60 : i = 60
      · have j3 : ¬ (i : Int) < 60 := by omega
        have hfin : Hid (((l.take i).map (fun s => s.take 257)) = fewL l) := by show _ = _; rw [h60]; rfl
        replace h60 := hide h60
        by_cases hn2 : i < n
        · have j1 : (i : Int) < (n : Int) := by omega
          go_wp2_with fail
          go_ret
          refine ⟨_, rfl, ?_, ⟨g, cc, ?_⟩, B.out⟩
          · rw [hfl.out, ← hfin.out]; exact O.out
          · rw [hfl.out]; rfl
        · have j1 : ¬ (i : Int) < (n : Int) := by omega
          go_wp2_with fail
          go_ret
          refine ⟨_, rfl, ?_, ⟨g, cc, ?_⟩, B.out⟩
          · rw [hfl.out, ← hfin.out]; exact O.out
          · rw [hfl.out]; rfl
      · have hin : i = n := by have := hM3.out; omega
        have j1 : ¬ (i : Int) < (n : Int) := by omega
        have hfin : Hid (((l.take i).map (fun s => s.take 257)) = fewL l) := by
          show _ = _
          unfold fewL
          rw [List.take_of_length_le (by rw [hlen.out]; omega), List.take_of_length_le (by rw [hlen.out]; omega)]
        replace hin := hide hin
        go_wp2_with fail
        go_ret
        refine ⟨_, rfl, ?_, ⟨g, cc, ?_⟩, B.out⟩
        · rw [hfl.out, ← hfin.out]; exact O.out
        · rw [hfl.out]; rfl
end Go.Proofs.Ytbinnpadmajgpaa
