/-
  The walk of the reference's With.
-/
import Derived.Test.YtfkjdibhnabkaaaAE
namespace Go.Proofs.Ytfkjdibhnabkaaa
open Go.RowKit Go.Shelf Go.Lib
set_option linter.unusedVariables false
set_option linter.unusedSimpArgs false

/-- What the reference has behind k labels, of which j are ahead of s. -/
def outK (L : List Lab) (s v : Str) (j k : Nat) : List Lab := L.take (min k j) ++ (if j < k then filB [(s, v)] else []) ++ offB ((L.take k).drop j) s
theorem outK_lo {L : List Lab} {s v : Str} {j k : Nat} (hk : k < L.length) (hj : k < j) : outK L s v j (k + 1) = outK L s v j k ++ [L.getD k noLab] := by
  unfold outK
  rw [if_neg (by omega), if_neg (by omega), Nat.min_eq_left (by omega), Nat.min_eq_left (by omega), List.drop_eq_nil_of_le (by simp; omega), List.drop_eq_nil_of_le (by simp; omega)]
  simp only [offB, List.filter_nil, List.append_nil]
  exact take_succ_getD hk
theorem outK_hi {L : List Lab} {s v : Str} {j k : Nat} (hk : k < L.length) (hj : j ≤ k) : outK L s v j (k + 1) = outK L s v j k ++ (if k = j then filB [(s, v)] else []) ++ offB [L.getD k noLab] s := by
  unfold outK
  rw [if_pos (by omega), Nat.min_eq_right (by omega), Nat.min_eq_right hj, take_succ_getD hk, List.drop_append_of_le_length (by simp; omega), offB_app]
  by_cases h : k = j
  · subst h
    rw [if_neg (by omega), if_pos rfl, List.drop_eq_nil_of_le (by simp; omega)]
    simp [offB]
  · rw [if_pos (by omega), if_neg h]
    simp
theorem outK_zero (L : List Lab) (s v : Str) (j : Nat) : outK L s v j 0 = [] := by
  unfold outK
  rw [if_neg (by omega)]
  simp [offB]
/-- In the end. -/
theorem outK_end {L : List Lab} {s v : Str} {j : Nat} (hj : j ≤ L.length) : refW L s v j = outK L s v j L.length ++ (if j = L.length then filB [(s, v)] else []) := by
  unfold outK refW
  by_cases h : j = L.length
  · subst h
    rw [if_neg (by omega), if_pos rfl]
    simp [offB]
  · rw [if_pos (by omega), if_neg h, Nat.min_eq_right hj, List.take_length]
    simp
theorem offB_single (x : Lab) (s : Str) : offB [x] s = if x.1 = s then [] else [x] := by
  unfold offB
  by_cases h : x.1 = s <;> simp [h]

set_option maxHeartbeats 2000000 in
theorem rwith_err (w : World) (a : Option Addr) (len cap : Nat) (L : List Lab) (s v : Str) (h : HasB w a len cap L) (hc : chkB L = false) :
    Calls Try.prog 9 #[.slice a len cap, .string s, .string v] w fun e w' => e = .returned (.tuple #[.slice none 0 0, .int .i64 40]) ∧ Below w.heap.size w w' := by
  have r1 := rcheck_any w a len cap L h
  rw [errB_no hc] at r1
  replace r1 := hide r1
  clear h
  go_enter Try.func9, Try.ntmps9
  go_wp2_with fail
  refine r1.out.mono ?_
  rintro e W1 ⟨rfl, m, rfl⟩
  go_wp2_with fail
  go_ret2
  exact ⟨rfl, below_drewN (Below.refl _ _) m⟩

set_option maxRecDepth 100000 in
set_option maxHeartbeats 8000000 in
theorem rwith_ok (w : World) (a : Option Addr) (len cap : Nat) (L : List Lab) (s v : Str) (h : HasB w a len cap L) (hc : chkB L = true) :
    Calls Try.prog 9 #[.slice a len cap, .string s, .string v] w fun e w' => ∃ R, R.Perm (wthF L s v) ∧ Asc R ∧ ((chkB R = true ∧ ∃ a' cap', e = .returned (.tuple #[.slice a' R.length cap', .int .i64 0]) ∧ HasB w' a' R.length cap' R) ∨ (chkB R = false ∧ e = .returned (.tuple #[.slice none 0 0, .int .i64 40]))) ∧ Below w.heap.size w w' := by
  have r1 := rcheck_any w a len cap L h
  rw [errB_yes hc] at r1
  replace r1 := hide r1
  have hlen := h.hlen
  have hL16 := (chkB_len hc).2
  have hcells := hide h.cells
  obtain ⟨j, hj, hlo, hhi⟩ := split_at L s (chkB_asc hc)
  have RW := hide (refW_is (v := v) (chkB_asc hc) (chkB_full hc) hlo hhi)
  replace hlo := hide hlo
  replace hhi := hide hhi
  have hz := hide (outK_zero L s v j)
  have hEnd := hide (outK_end (s := s) (v := v) hj)
  have hve : (ByteArray.toList v).isEmpty = decide (v = ByteArray.empty) := by
    rw [isEmpty_size, Bool.eq_iff_iff, decide_eq_true_iff, decide_eq_true_iff]
    constructor
    · intro h; cases v with | mk d => cases d with | mk l => cases l with
        | nil => rfl
        | cons x l => simp [ByteArray.size] at h
    · intro h; rw [h]; rfl
  have hf1 := hide (filB_one s v)
  obtain ⟨ve, hve2⟩ : ∃ ve, decide (v = ByteArray.empty) = ve := ⟨_, rfl⟩
  rw [hve2] at hve
  have hf2 : Hid (filB [(s, v)] = if ve = true then [] else [(s, v)]) := by
    show _ = _
    rw [hf1.out, ← hve2]
    by_cases h9 : v = ByteArray.empty <;> simp [h9]
  clear h hc hve2 hf1
  go_enter Try.func9, Try.ntmps9
  go_wp2_with fail
  refine r1.out.mono ?_
  rintro e W1 ⟨rfl, m1, rfl⟩
  clear r1
  have B1 : Hid (Below w.heap.size w (w.drewN m1)) := below_drewN (Below.refl _ _) m1
  obtain ⟨W1, hW1⟩ : ∃ W1, w.drewN m1 = W1 := ⟨_, rfl⟩
  rw [hW1] at B1 ⊢
  clear hW1
  have O1 := hide (ownsB_nil W1 w.heap.size B1.out.size)
  have B1' := hide (B1.out.alloc B1.out.size (.cells #[] 39))
  go_wp2_with fail
  go_loopw [8, 9, 10] (fun vv pp i wr => ∃ (k n : Nat) (ao : Option Addr) (co : Nat) (pb : Bool), k ≤ len ∧ n ≤ 2 * k ∧ vv = .slice ao n co ∧ pp = .bool pb ∧ i = .int .i64 (k : Int) ∧ Hid (pb = (ve || decide (j < k))) ∧ Hid (wr.ownsRow w.heap.size 39 2 (.slice ao n co) n (flat (outK L s v j k))) ∧ Hid (Below w.heap.size w wr)) (fun _ _ i _ => len - (intOf i).toNat)
  case atStart =>
    refine ⟨0, 0, _, _, ve, Nat.zero_le _, by omega, rfl, rfl, rfl, (by simp : ve = (ve || decide (j < 0))), ?_, B1'⟩
    rw [hz.out]; exact O1
  case round =>
    clear O1 B1 B1' hz
    obtain ⟨k, n, ao, co, pb, hk, hnk, rfl, rfl, rfl, hpb, hR, hB⟩ := hrel
    by_cases hkl : k < len
    · obtain ⟨b, off, rfl, hbl, hcl⟩ := hcells.out (by omega)
      have i1 : (k : Int) < len := by omega
      have hsz := hB.out.size
      have c0 : wr.cell? ⟨b, off + k * 2, none⟩ = some (.string (L.getD k noLab).1) := (hB.out.cell (p := ⟨b, off + k * 2, none⟩) hbl).trans (hcl k hkl).1
      have c1 : wr.cell? ⟨b, off + k * 2 + 1, none⟩ = some (.string (L.getD k noLab).2) := (hB.out.cell (p := ⟨b, off + k * 2 + 1, none⟩) hbl).trans (hcl k hkl).2
      have hbl2 : Hid (b < w.heap.size) := hbl
      by_cases hkj : k < j
      · have hlt := hlo.out k hkj
        have hst := hide (outK_lo (s := s) (v := v) (by omega : k < L.length) hkj)
        have hpb2 : Hid (pb = (ve || decide (j < k + 1))) := by
          show _ = _
          rw [hpb.out, decide_eq_false (by omega : ¬ j < k), decide_eq_false (by omega : ¬ j < k + 1)]
        generalize L.getD k noLab = x at c0 c1 hlt hst
        obtain ⟨x0, x1⟩ := x
        simp only at c0 c1 hlt hst
        have il : Op.bytesLess (ByteArray.toList x0) (ByteArray.toList s) = true := (s3_less _ _).1 hlt
        have hne : ¬ ByteArray.toList x0 = ByteArray.toList s := fun e => by have e2 := (str_ext _ _).1 e; rw [e2, s3_irr] at hlt; omega
        have he2 : (ByteArray.toList x0 != ByteArray.toList s) = true := bne_iff_ne.2 hne
        have he3 : (ByteArray.toList x0 == ByteArray.toList s) = false := beq_eq_false_iff_ne.2 hne
        clear hcl hlt hne
        cases pb with
        | true =>
          have c2 := hide (cells2 wr (.string x0) (.string x1) 39)
          have hZ : Hid (w.heap.size ≤ (wr.alloc (.cells #[.string x0, .string x1] 39)).heap.size) := by show _ ≤ _; simp; omega
          go_wp2_with (first
            | (refine wpList_appB rfl (.tmp 47) (.tmp 52) rfl w.heap.size _ n (outK L s v j k) rfl (hR.out.alloc _) wr.heap.size 1 (x0, x1) rfl c2.out.1 c2.out.2 (by omega) hZ.out ?_
               intro v8 W8 O8 G8
               have B8 := hide ((hB.out.alloc hB.out.size _).grown G8 hZ.out (fun q e => (hR.out.lt q e).1))
               obtain ⟨a8, c8, e8⟩ := slice_of_owns O8
               subst e8
               rw [← hst.out] at O8
               replace O8 := hide O8
               clear G8))
          go_roundw
          case rel => exact ⟨k + 1, n + 1, a8, c8, true, by omega, by omega, rfl, rfl, by go_num, hpb2, O8, B8⟩
          case measure => simp [intOf]; omega
        | false =>
          have c2 := hide (cells2 wr (.string x0) (.string x1) 39)
          have hZ : Hid (w.heap.size ≤ (wr.alloc (.cells #[.string x0, .string x1] 39)).heap.size) := by show _ ≤ _; simp; omega
          go_wp2_with (first
            | (refine wpList_appB rfl (.tmp 47) (.tmp 52) rfl w.heap.size _ n (outK L s v j k) rfl (hR.out.alloc _) wr.heap.size 1 (x0, x1) rfl c2.out.1 c2.out.2 (by omega) hZ.out ?_
               intro v8 W8 O8 G8
               have B8 := hide ((hB.out.alloc hB.out.size _).grown G8 hZ.out (fun q e => (hR.out.lt q e).1))
               obtain ⟨a8, c8, e8⟩ := slice_of_owns O8
               subst e8
               rw [← hst.out] at O8
               replace O8 := hide O8
               clear G8))
          go_roundw
          case rel => exact ⟨k + 1, n + 1, a8, c8, false, by omega, by omega, rfl, rfl, by go_num, hpb2, O8, B8⟩
          case measure => simp [intOf]; omega
      · have hge := hhi.out k (by omega) (by omega)
        have hst := outK_hi (s := s) (v := v) (by omega : k < L.length) (by omega : j ≤ k)
        rw [hf2.out, offB_single] at hst
        have hpb2 : Hid (true = (ve || decide (j < k + 1))) := by
          show _ = _
          rw [decide_eq_true (by omega : j < k + 1)]; simp
        generalize L.getD k noLab = x at c0 c1 hge hst
        obtain ⟨x0, x1⟩ := x
        simp only at c0 c1 hge hst
        have il : Op.bytesLess (ByteArray.toList x0) (ByteArray.toList s) = false := by
          cases hb : Op.bytesLess (ByteArray.toList x0) (ByteArray.toList s) with
          | false => rfl
          | true => have h9 := (s3_less x0 s).2 hb; omega
        clear hcl hge
        cases pb with
        | true =>
          have hno : (if k = j then (if ve = true then [] else [(s, v)]) else ([] : List Lab)) = [] := by
            by_cases h9 : k = j
            · have h10 := hpb.out
              rw [decide_eq_false (by omega : ¬ j < k), Bool.or_false] at h10
              rw [if_pos h9, ← h10]; rfl
            · rw [if_neg h9]
          rw [hno, List.append_nil] at hst
          by_cases he : x0 = s
          · rw [if_pos he, List.append_nil] at hst
            have he2 : (ByteArray.toList x0 != ByteArray.toList s) = false := by rw [he]; simp
            have he3 : (ByteArray.toList x0 == ByteArray.toList s) = true := by rw [he]; simp
            replace hst := hide hst
            clear he hno
            go_wp2_with fail
            go_roundw
            case rel => exact ⟨k + 1, n, ao, co, true, by omega, by omega, rfl, rfl, by go_num, hpb2, by rw [hst.out]; exact hR, hB⟩
            case measure => simp [intOf]; omega
          · rw [if_neg he] at hst
            have hne : ¬ ByteArray.toList x0 = ByteArray.toList s := fun e => he ((str_ext _ _).1 e)
            have he2 : (ByteArray.toList x0 != ByteArray.toList s) = true := bne_iff_ne.2 hne
            have he3 : (ByteArray.toList x0 == ByteArray.toList s) = false := beq_eq_false_iff_ne.2 hne
            replace hst := hide hst
            clear he hne hno
            have c2 := hide (cells2 wr (.string x0) (.string x1) 39)
            have hZ : Hid (w.heap.size ≤ (wr.alloc (.cells #[.string x0, .string x1] 39)).heap.size) := by show _ ≤ _; simp; omega
            go_wp2_with (first
              | (refine wpList_appB rfl (.tmp 47) (.tmp 52) rfl w.heap.size _ n (outK L s v j k) rfl (hR.out.alloc _) wr.heap.size 1 (x0, x1) rfl c2.out.1 c2.out.2 (by omega) hZ.out ?_
                 intro v8 W8 O8 G8
                 have B8 := hide ((hB.out.alloc hB.out.size _).grown G8 hZ.out (fun q e => (hR.out.lt q e).1))
                 obtain ⟨a8, c8, e8⟩ := slice_of_owns O8
                 subst e8
                 rw [← hst.out] at O8
                 replace O8 := hide O8
                 clear G8))
            go_roundw
            case rel => exact ⟨k + 1, n + 1, a8, c8, true, by omega, by omega, rfl, rfl, by go_num, hpb2, O8, B8⟩
            case measure => simp [intOf]; omega
        | false =>
          have hyes : (if k = j then (if ve = true then [] else [(s, v)]) else ([] : List Lab)) = [(s, v)] := by
            have h10 := hpb.out
            have h11 : ve = false := by cases ve with | false => rfl | true => simp at h10
            have h12 : ¬ j < k := by rw [h11, Bool.false_or] at h10; exact of_decide_eq_false h10.symm
            rw [if_pos (by omega), h11]; rfl
          rw [hyes] at hst
          have d2 := hide (cells2 wr (.string s) (.string v) 39)
          have hZ1 : Hid (w.heap.size ≤ (wr.alloc (.cells #[.string s, .string v] 39)).heap.size) := by show _ ≤ _; simp; omega
          by_cases he : x0 = s
          · rw [if_pos he, List.append_nil] at hst
            have he2 : (ByteArray.toList x0 != ByteArray.toList s) = false := by rw [he]; simp
            have he3 : (ByteArray.toList x0 == ByteArray.toList s) = true := by rw [he]; simp
            replace hst := hide hst
            clear he hyes
            go_wp2_with (first
              | (refine wpList_appB rfl (.tmp 34) (.tmp 38) rfl w.heap.size _ n (outK L s v j k) rfl (hR.out.alloc _) wr.heap.size 1 (s, v) rfl d2.out.1 d2.out.2 (by omega) hZ1.out ?_
                 intro v8 W8 O8 G8
                 have B8 := hide ((hB.out.alloc hB.out.size _).grown G8 hZ1.out (fun q e => (hR.out.lt q e).1))
                 obtain ⟨a8, c8, e8⟩ := slice_of_owns O8
                 subst e8
                 rw [← hst.out] at O8
                 have x8 : W8.cell? ⟨b, off + k * 2, none⟩ = some (.string x0) := (B8.out.cell (p := ⟨b, off + k * 2, none⟩) hbl2.out).trans ((hB.out.cell (p := ⟨b, off + k * 2, none⟩) hbl2.out).symm.trans c0)
                 replace O8 := hide O8
                 clear G8))
            go_roundw
            case rel => exact ⟨k + 1, n + 1, a8, c8, true, by omega, by omega, rfl, rfl, by go_num, hpb2, O8, B8⟩
            case measure => simp [intOf]; omega
          · rw [if_neg he] at hst
            have hne : ¬ ByteArray.toList x0 = ByteArray.toList s := fun e => he ((str_ext _ _).1 e)
            have he2 : (ByteArray.toList x0 != ByteArray.toList s) = true := bne_iff_ne.2 hne
            have he3 : (ByteArray.toList x0 == ByteArray.toList s) = false := beq_eq_false_iff_ne.2 hne
            replace hst := hide hst
            clear he hne hyes
            go_wp2_with (first
              | (refine wpList_appB rfl (.tmp 34) (.tmp 38) rfl w.heap.size _ n (outK L s v j k) rfl (hR.out.alloc _) wr.heap.size 1 (s, v) rfl d2.out.1 d2.out.2 (by omega) hZ1.out ?_
                 intro v7 W7 O7 G7
                 have B7 := hide ((hB.out.alloc hB.out.size _).grown G7 hZ1.out (fun q e => (hR.out.lt q e).1))
                 obtain ⟨a7, c7, e7⟩ := slice_of_owns O7
                 subst e7
                 have x7 : W7.cell? ⟨b, off + k * 2, none⟩ = some (.string x0) := (B7.out.cell (p := ⟨b, off + k * 2, none⟩) hbl2.out).trans ((hB.out.cell (p := ⟨b, off + k * 2, none⟩) hbl2.out).symm.trans c0)
                 have x7' : W7.cell? ⟨b, off + k * 2 + 1, none⟩ = some (.string x1) := (B7.out.cell (p := ⟨b, off + k * 2 + 1, none⟩) hbl2.out).trans ((hB.out.cell (p := ⟨b, off + k * 2 + 1, none⟩) hbl2.out).symm.trans c1)
                 replace O7 := hide O7
                 have e7s := hide (cells2 W7 (.string x0) (.string x1) 39)
                 have hZ7 : Hid (w.heap.size ≤ (W7.alloc (.cells #[.string x0, .string x1] 39)).heap.size) := by have := B7.out.size; show _ ≤ _; simp; omega
                 clear G7)
              | (refine wpList_appB rfl (.tmp 47) (.tmp 52) rfl w.heap.size _ (n + 1) (outK L s v j k ++ [(s, v)]) rfl (O7.out.alloc _) W7.heap.size 1 (x0, x1) rfl e7s.out.1 e7s.out.2 (by omega) hZ7.out ?_
                 intro v8 W8 O8 G8
                 have B8 := hide ((B7.out.alloc B7.out.size _).grown G8 hZ7.out (fun q e => (O7.out.lt q e).1))
                 obtain ⟨a8, c8, e8⟩ := slice_of_owns O8
                 subst e8
                 rw [← hst.out] at O8
                 replace O8 := hide O8
                 clear G8))
            go_roundw
            case rel => exact ⟨k + 1, n + 1 + 1, a8, c8, true, by omega, by omega, rfl, rfl, by go_num, hpb2, O8, B8⟩
            case measure => simp [intOf]; omega
    · obtain rfl : len = k := by omega
      have hlen2 : j ≤ len := by omega
      rw [hlen] at hEnd
      cases pb with
      | true =>
        have hno : (if j = len then filB [(s, v)] else ([] : List Lab)) = [] := by
          by_cases h9 : j = len
          · have h10 := hpb.out
            rw [decide_eq_false (by omega : ¬ j < len), Bool.or_false] at h10
            rw [if_pos h9, hf2.out, ← h10]; rfl
          · rw [if_neg h9]
        have hst := hEnd.out
        rw [hno, List.append_nil] at hst
        have O8 : wr.ownsRow w.heap.size 39 2 (.slice ao n co) n (flat (refW L s v j)) := by rw [hst]; exact hR.out
        have B8 := hB
        obtain ⟨_, _, e9, H8⟩ := hasB_of_owns O8
        cases e9
        have RC := rcheck_any wr _ _ _ (refW L s v j) H8
        obtain rfl := H8.hlen
        replace H8 := hide H8
        clear hno hst hR O8 hEnd hpb
        by_cases hc : chkB (refW L s v j) = true
        · rw [errB_yes hc] at RC
          replace RC := hide RC
          go_wp2_with fail
          refine RC.out.mono ?_
          rintro e W9 ⟨rfl, m9, rfl⟩
          go_wp2_with fail
          go_ret2
          exact ⟨refW L s v j, RW.out.1, RW.out.2, .inl ⟨hc, _, _, rfl, H8.out.kept (below_drewN (Below.refl _ _) m9) (Nat.le_refl _)⟩, below_drewN B8.out m9⟩
        · replace hc : chkB (refW L s v j) = false := by simpa using hc
          rw [errB_no hc] at RC
          replace RC := hide RC
          go_wp2_with fail
          refine RC.out.mono ?_
          rintro e W9 ⟨rfl, m9, rfl⟩
          go_wp2_with fail
          go_ret2
          exact ⟨refW L s v j, RW.out.1, RW.out.2, .inr ⟨hc, rfl⟩, below_drewN B8.out m9⟩
      | false =>
        have hve0 : ve = false := by have h10 := hpb.out; cases ve with | false => rfl | true => simp at h10
        have hjl : j = len := by
          have h10 := hpb.out
          rw [hve0, Bool.false_or] at h10
          have := of_decide_eq_false h10.symm
          omega
        have hst := hEnd.out
        rw [if_pos hjl, hf2.out, hve0] at hst
        replace hst : refW L s v j = outK L s v j len ++ [(s, v)] := hst
        replace hst := hide hst
        have d2 := hide (cells2 wr (.string s) (.string v) 39)
        have hZ1 : Hid (w.heap.size ≤ (wr.alloc (.cells #[.string s, .string v] 39)).heap.size) := by have := hB.out.size; show _ ≤ _; simp; omega
        clear hve0 hpb hEnd hjl
        go_wp2_with (first
          | (refine wpList_appB rfl (.tmp 56) (.tmp 60) rfl w.heap.size _ n (outK L s v j len) rfl (hR.out.alloc _) wr.heap.size 1 (s, v) rfl d2.out.1 d2.out.2 (by omega) hZ1.out ?_
             intro v8 W8 O8 G8
             have B8 := hide ((hB.out.alloc hB.out.size _).grown G8 hZ1.out (fun q e => (hR.out.lt q e).1))
             obtain ⟨a8, c8, e8⟩ := slice_of_owns O8
             subst e8
             rw [← hst.out] at O8
             obtain ⟨_, _, e9, H8⟩ := hasB_of_owns O8
             cases e9
             have RC := rcheck_any W8 _ _ _ (refW L s v j) H8
             have hl8 := H8.hlen
             replace H8 := hide H8
             clear G8 O8))
        rw [← hl8] at H8 RC ⊢
        clear hl8
        by_cases hc : chkB (refW L s v j) = true
        · rw [errB_yes hc] at RC
          replace RC := hide RC
          go_wp2_with fail
          refine RC.out.mono ?_
          rintro e W9 ⟨rfl, m9, rfl⟩
          go_wp2_with fail
          go_ret2
          exact ⟨refW L s v j, RW.out.1, RW.out.2, .inl ⟨hc, _, _, rfl, H8.out.kept (below_drewN (Below.refl _ _) m9) (Nat.le_refl _)⟩, below_drewN B8.out m9⟩
        · replace hc : chkB (refW L s v j) = false := by simpa using hc
          rw [errB_no hc] at RC
          replace RC := hide RC
          go_wp2_with fail
          refine RC.out.mono ?_
          rintro e W9 ⟨rfl, m9, rfl⟩
          go_wp2_with fail
          go_ret2
          exact ⟨refW L s v j, RW.out.1, RW.out.2, .inr ⟨hc, rfl⟩, below_drewN B8.out m9⟩
end Go.Proofs.Ytfkjdibhnabkaaa
