/-
  The walk of With.
-/
import Derived.Test.YtfkjdibhnabkaaaAA
import Derived.Laws.MakeOwn
namespace Go.Proofs.Ytfkjdibhnabkaaa
open Go.RowKit Go.Shelf Go.Lib
set_option linter.unusedVariables false
set_option linter.unusedSimpArgs false

theorem wpList_makeL {w : World} {ops : Array Oper} {rest : List Oper} {o : Oper} {a : Act} {Q : Exit → Act → World → Prop}
    (hg : o.guard = none) (lo co : Operand) (hop : o.op = Op.makeSlice 23 lo co) (c : Nat) (C : Int) (hl : a.eval lo = .int .i64 0) (hc : a.eval co = .int .i64 C) (hC : C = (c : Int)) (hb : c ≤ 1099511627776)
    (h : ∀ w', w'.ownsRow w.heap.size 39 2 (.slice (some ⟨w.heap.size, 0, none⟩) 0 c) 0 (flat []) → Below w.heap.size w w' →
      wpList Try.prog ops Q rest (a.put o.dst (.slice (some ⟨w.heap.size, 0, none⟩) 0 c)) w') :
    wpList Try.prog ops Q (o :: rest) a w := by
  obtain ⟨i0, hi, hz0, hz1, hz2⟩ := info_parts39
  refine wpList_plain hg fun K hK' => ?_
  subst hC
  have hrun := run_make (P := Try.prog) w 23 39 i0 _ Try.underlying23 hi hz0 .i64 .i64 0 c (by omega) (by omega) (by rw [hz2]; omega) (by omega)
  simp only [Int.toNat_natCast, hz1, show (0 : Int).toNat = 0 from rfl] at hrun
  unfold Oper.wp
  simp [execOp, hop, hl, hc, hrun, Result.andThen]
  refine hK' _ _ (h _ ⟨rfl, .inr ⟨w.heap.size, c, _, rfl, Nat.le_refl _, heap_alloc_new w _, Nat.zero_le _, by unfold maxLen; omega, ?_, ?_⟩⟩ ((Below.refl _ _).alloc (Nat.le_refl _) _))
  · rw [size_madeCells]
  · simp; rfl
theorem ownsB_mono {w : World} {base base' n : Nat} {v : Value} {xs : List Value} (h : w.ownsRow base 39 2 v n xs) (hb : base' ≤ base) : w.ownsRow base' 39 2 v n xs := by
  refine ⟨h.1, ?_⟩
  rcases h.2 with h1 | ⟨g, cap, cur, rfl, h2, h3⟩
  · exact .inl h1
  · exact .inr ⟨g, cap, cur, rfl, by omega, h3⟩
theorem offB_yes {L : List Lab} {k : Nat} {s : Str} (hk : k < L.length) (h : (L.getD k noLab).1 ≠ s) : offB (L.take (k + 1)) s = offB (L.take k) s ++ [L.getD k noLab] := by
  rw [take_succ_getD hk]
  unfold offB
  rw [List.filter_append, List.filter_cons, if_pos (by simpa using h)]
  simp
theorem offB_no {L : List Lab} {k : Nat} {s : Str} (hk : k < L.length) (h : (L.getD k noLab).1 = s) : offB (L.take (k + 1)) s = offB (L.take k) s := by
  rw [take_succ_getD hk]
  unfold offB
  rw [List.filter_append, List.filter_cons, if_neg (by simpa using h)]
  simp

set_option maxHeartbeats 2000000 in
theorem with_err (w : World) (a : Option Addr) (len cap : Nat) (L : List Lab) (s v : Str) (h : HasB w a len cap L) (hc : chkB L = false) :
    Calls Try.prog 8 #[.slice a len cap, .string s, .string v] w fun e w' => e = .returned (.tuple #[.slice none 0 0, .int .i64 40]) ∧ Below w.heap.size w w' := by
  have r1 := check_any w a len cap L h
  rw [errB_no hc] at r1
  replace r1 := hide r1
  clear h
  go_enter Try.func8, Try.ntmps8
  go_wp2_with fail
  refine r1.out.mono ?_
  rintro e W1 ⟨rfl, B1⟩
  go_wp2_with fail
  go_ret2
  exact ⟨rfl, B1⟩

set_option maxRecDepth 100000 in
set_option maxHeartbeats 4000000 in
theorem with_ok (w : World) (a : Option Addr) (len cap : Nat) (L : List Lab) (s v : Str) (h : HasB w a len cap L) (hc : chkB L = true) :
    Calls Try.prog 8 #[.slice a len cap, .string s, .string v] w fun e w' => ∃ R, R.Perm (wthF L s v) ∧ Asc R ∧ ((chkB R = true ∧ ∃ a' cap', e = .returned (.tuple #[.slice a' R.length cap', .int .i64 0]) ∧ HasB w' a' R.length cap' R) ∨ (chkB R = false ∧ e = .returned (.tuple #[.slice none 0 0, .int .i64 40]))) ∧ Below w.heap.size w w' := by
  have r1 := check_any w a len cap L h
  rw [errB_yes hc] at r1
  replace r1 := hide r1
  have hlen := h.hlen
  have hL16 := (chkB_len hc).2
  have hcells := hide h.cells
  have hle := h.le
  have hcap := h.capb
  unfold maxLen at hcap
  obtain ⟨c17, hc17⟩ : ∃ c, len + 1 = c := ⟨_, rfl⟩
  have e17 : (len : Int) + 1 = (c17 : Int) := by omega
  have hc18 : c17 ≤ 1099511627776 := by omega
  clear hc17
  have hnub := hide (filB_nub (offB_nub (s := s) (v := v) (asc_nub (chkB_asc hc))))
  have hflen : Hid ((wthF L s v).length < 20) := by
    show _ < _
    have h1 := filB_len (offB L s ++ [(s, v)])
    have h2 := offB_len L s
    rw [List.length_append, List.length_singleton] at h1
    show (filB (offB L s ++ [(s, v)])).length < 20
    omega
  clear h hc
  go_enter Try.func8, Try.ntmps8
  go_wp2_with fail
  refine r1.out.mono ?_
  rintro e W1 ⟨rfl, B1⟩
  replace B1 := hide B1
  clear r1
  go_wp2_with (at_make; refine wpList_makeL rfl (.const (.int .i64 0)) (.tmp 19) rfl c17 _ rfl rfl (by first | exact e17 | rfl) hc18 ?_; intro W2 O2 B2; replace B2 := hide (B1.out.trans (B2.mono B1.out.size)); replace O2 := hide (ownsB_mono O2 B1.out.size))
  go_loopw [9, 23] (fun vv i wr => ∃ (k n : Nat) (ao : Option Addr) (co : Nat), k ≤ len ∧ n ≤ k ∧ vv = .slice ao n co ∧ i = .int .i64 (k : Int) ∧ Hid (wr.ownsRow w.heap.size 39 2 (.slice ao n co) n (flat (offB (L.take k) s))) ∧ Hid (Below w.heap.size w wr)) (fun _ i _ => len - (intOf i).toNat)
  case atStart => exact ⟨0, 0, _, _, Nat.zero_le _, Nat.le_refl _, rfl, rfl, O2, B2⟩
  case round =>
    clear O2 B2 B1
    obtain ⟨k, n, ao, co, hk, hnk, rfl, rfl, hR, hB⟩ := hrel
    by_cases hkl : k < len
    · obtain ⟨b, off, rfl, hbl, hcl⟩ := hcells.out (by omega)
      have i1 : (k : Int) < len := by omega
      have hsz := hB.out.size
      have c0 : wr.cell? ⟨b, off + k * 2, none⟩ = some (.string (L.getD k noLab).1) := (hB.out.cell (p := ⟨b, off + k * 2, none⟩) hbl).trans (hcl k hkl).1
      have c1 : wr.cell? ⟨b, off + k * 2 + 1, none⟩ = some (.string (L.getD k noLab).2) := (hB.out.cell (p := ⟨b, off + k * 2 + 1, none⟩) hbl).trans (hcl k hkl).2
      have fy := offB_yes (L := L) (k := k) (s := s) (by omega)
      have fn := offB_no (L := L) (k := k) (s := s) (by omega)
      generalize L.getD k noLab = x at c0 c1 fy fn
      obtain ⟨x0, x1⟩ := x
      simp only at c0 c1 fy fn
      clear hcl
      by_cases he : x0 = s
      · have hst := hide (fn he)
        have he2 : (ByteArray.toList x0 != ByteArray.toList s) = false := by rw [he]; simp
        have he3 : (ByteArray.toList x0 == ByteArray.toList s) = true := by rw [he]; simp
        clear he fy fn
        go_wp2_with fail
        go_roundw
        case rel => exact ⟨k + 1, n, ao, co, by omega, by omega, rfl, by go_num, (by rw [hst.out]; exact hR.out.alloc _ : (wr.alloc (.cells #[.string x0, .string x1] 39)).ownsRow w.heap.size 39 2 (.slice ao n co) n (flat (offB (L.take (k + 1)) s))), hB.out.alloc hsz _⟩
        case measure => simp [intOf]; omega
      · have hst := hide (fy he)
        have hne : ¬ ByteArray.toList x0 = ByteArray.toList s := fun e => he ((str_ext _ _).1 e)
        have he2 : (ByteArray.toList x0 != ByteArray.toList s) = true := bne_iff_ne.2 hne
        have he3 : (ByteArray.toList x0 == ByteArray.toList s) = false := beq_eq_false_iff_ne.2 hne
        clear he fy fn hne
        have c2 := cells2 (wr.alloc (.cells #[.string x0, .string x1] 39)) (.string x0) (.string x1) 39
        rw [World.size_alloc] at c2
        replace c2 := hide c2
        have hZ : Hid (w.heap.size ≤ ((wr.alloc (.cells #[.string x0, .string x1] 39)).alloc (.cells #[.string x0, .string x1] 39)).heap.size) := by show _ ≤ _; simp; omega
        go_wp2_with (first
          | (refine wpList_appB rfl (.tmp 31) (.tmp 33) rfl w.heap.size _ n (offB (L.take k) s) rfl ((hR.out.alloc _).alloc _) (wr.heap.size + 1) 1 (x0, x1) rfl c2.out.1 c2.out.2 (by omega) hZ.out ?_
             intro v8 W8 O8 G8
             have B8 := hide (((hB.out.alloc hB.out.size _).alloc (by have := hB.out.size; simp; omega) _).grown G8 hZ.out (fun q e => (hR.out.lt q e).1))
             obtain ⟨a8, c8, e8⟩ := slice_of_owns O8
             subst e8
             rw [← hst.out] at O8
             replace O8 := hide O8
             clear G8))
        go_roundw
        case rel => exact ⟨k + 1, n + 1, a8, c8, by omega, by omega, rfl, by go_num, O8, B8⟩
        case measure => simp [intOf]; omega
    · obtain rfl : len = k := by omega
      have hR2 := hR.out
      rw [List.take_of_length_le (by omega)] at hR2
      replace hR2 := hide hR2
      have c2 := hide (cells2 wr (.string s) (.string v) 39)
      have hZ : Hid (w.heap.size ≤ (wr.alloc (.cells #[.string s, .string v] 39)).heap.size) := by have := hB.out.size; show _ ≤ _; simp; omega
      go_wp2_with (first
        | (refine wpList_appB rfl (.tmp 36) (.tmp 40) rfl w.heap.size _ n (offB L s) rfl (hR2.out.alloc _) wr.heap.size 1 (s, v) rfl c2.out.1 c2.out.2 (by omega) hZ.out ?_
           intro v8 W8 O8 G8
           have B8 := hide ((hB.out.alloc hB.out.size _).grown G8 hZ.out (fun q e => (hR2.out.lt q e).1))
           obtain ⟨a8, c8, e8⟩ := slice_of_owns O8
           subst e8
           obtain ⟨_, _, e9, H8⟩ := hasB_of_owns O8
           cases e9
           have SA := hide (sort_apart W8 _ _ _ (offB L s ++ [(s, v)]) H8 (by omega) hnub.out hflen.out)
           clear G8 O8))
      refine SA.out.mono ?_
      rintro e W9 ⟨R, pR, aR, hR9, B9⟩
      have b9 := hide (B8.out.trans (B9.mono B8.out.size))
      rcases hR9 with ⟨hc, a9, c9, rfl, H9⟩ | ⟨hc, rfl⟩
      · replace H9 := hide H9
        replace pR := hide pR
        replace aR := hide aR
        clear B9 SA
        go_wp2_with fail
        go_ret2
        exact ⟨R, pR.out, aR.out, .inl ⟨hc, a9, c9, rfl, H9.out⟩, b9.out⟩
      · replace pR := hide pR
        replace aR := hide aR
        clear B9 SA
        go_wp2_with fail
        go_ret2
        exact ⟨R, pR.out, aR.out, .inr ⟨hc, rfl⟩, b9.out⟩
end Go.Proofs.Ytfkjdibhnabkaaa
