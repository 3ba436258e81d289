/-
  label.Put.
-/
import Derived.Test.YtlmpndmceiihaaaBC
import Derived.Laws.IdiomStrings
namespace Go.Proofs.Ytlmpndmceiihaaa
open Go.RowKit Go.Shelf Go.Lib
set_option linter.unusedVariables false
set_option linter.unusedSimpArgs false

theorem str_bytes (w : World) (s : Str) (hs : s.size ≤ 100000) : ∃ c w', (convert 9 24 (.string s)).run Try.prog w = .ok (.slice (some ⟨w.heap.size, 0, none⟩) s.size c) w' ∧ V.Has w' (some ⟨w.heap.size, 0, none⟩) s.size c (V.nums s) ∧ Below w.heap.size w w' := by
  refine ⟨_, _, run_bytes_of_string w 9 24 5 s Try.underlying9 Try.underlying24 Try.underlying5, ⟨V.nums_len s, ?_, ?_, (fun e => nomatch e), (fun _ => ⟨w.heap.size, 0, rfl, by simp, fun i hi => ?_⟩), V.nums_bytes s⟩, ((Below.refl _ w).drew).alloc (Nat.le_refl _) _⟩
  · exact grownCap_ge w _ _ _
  · exact grownCap_le_maxLen w _ _ _ (by unfold maxLen; omega)
  · unfold World.cell?
    simp only [Nat.zero_add]
    rw [show (w.drew.alloc (Obj.cells (bytesRow s (grownCap w s.size 0 5)) 5 ((bytesRow s (grownCap w s.size 0 5)).size, (bytesRow s (grownCap w s.size 0 5)).size + 1))).heap[w.heap.size]? = some _ from heap_alloc_new w.drew _]
    have hi' : i < s.data.size := hi
    simp [bytesRow, Array.getElem?_append, hi', hi, V.nums, List.getD]
theorem lab_sizes {R : List Lab} (h : chkB R = true) : ∀ x ∈ R, x.1.size ≤ 64 ∧ x.2.size ≤ 256 := by
  intro x hx
  unfold chkB at h
  simp only [Bool.and_eq_true, List.all_eq_true] at h
  have h1 := h.2 x hx
  refine ⟨?_, ?_⟩
  · have := h1.1
    unfold nameB at this
    simp only [Bool.and_eq_true, decide_eq_true_eq] at this
    omega
  · have := h1.2
    unfold isVal at this
    simp only [Bool.and_eq_true, decide_eq_true_eq] at this
    omega
theorem lbs_take {R : List Lab} {k : Nat} (hk : k < R.length) : V.lbs (R.take (k + 1)) = V.lbs (R.take k) ++ V.enc (R.getD k noLab).1.size ++ V.nums (R.getD k noLab).1 ++ V.enc (R.getD k noLab).2.size ++ V.nums (R.getD k noLab).2 := by
  rw [List.take_add_one, List.getElem?_eq_getElem hk]
  simp only [Option.toList_some]
  rw [V.lbs_snoc]
  simp only [List.getD, List.getElem?_eq_getElem hk, Option.getD_some, V.lb, V.pb, V.nums_len, List.append_assoc]
theorem enc_len10 (n : Nat) : 1 ≤ (V.enc n).length ∧ (V.enc n).length ≤ 10 := by rw [V.enc_length]; exact V.sz_range n

set_option maxRecDepth 100000 in
set_option maxHeartbeats 4000000 in
theorem Put_ok (w : World) (a : Option Addr) (len cap : Nat) (l : List Int) (h : V.Has w a len cap l) (hb : len ≤ 10000) (aL : Option Addr) (n cL : Nat) (R : List Lab) (hL : HasB w aL n cL R) (hc : chkB R = true) :
    Calls Try.prog 6 #[.slice a len cap, .slice aL n cL] w fun e w' => ∃ a' n' c', e = .returned (.tuple #[.slice a' n' c', .int .i64 0]) ∧ V.Has w' a' n' c' (l ++ V.bytesL R) ∧ Below w.heap.size w w' := by
  have rc := check_any w aL n cL R hL
  rw [errB_yes hc] at rc
  replace rc := hide rc
  have hlen := hL.hlen
  have h16 := (chk_len16 hc).2
  have hpos := (chk_len16 hc).1
  have hsz := hide (lab_sizes hc)
  have hcells := hide hL.cells
  have hleL := hL.le
  have hcbL := hL.capb
  unfold maxLen at hcbL
  rw [hlen] at h16 hpos
  replace hlen := hide hlen
  replace h := hide h
  clear hc hL
  go_enter Try.func6, Try.ntmps6
  go_wp2_with fail
  refine rc.out.mono ?_
  rintro e W1 ⟨rfl, B1⟩
  have PU : Hid (Calls Try.prog 14 #[.slice none 0 0, .int .u64 (n : Int)] W1 (V.Ret W1 (V.enc n))) := by
    have := V.Put_any W1 none 0 0 [] (n : Int) (V.has_nil W1) (by omega) (by omega) (by omega)
    rwa [Int.toNat_natCast, List.nil_append] at this
  replace B1 := hide B1
  clear rc
  go_wp2_with fail
  refine PU.out.mono ?_
  rintro e W2 ⟨a2, n2, c2, rfl, H2, B2, O2⟩
  have b2 := hide (B1.out.trans (B2.mono B1.out.size))
  have hn2 : n2 ≤ 10 := by have := H2.hlen; have := enc_len10 n; omega
  replace H2 := hide H2
  clear O2 B2 PU B1
  go_wp2_with fail
  go_loopw [7, 21] (fun vv ii wr => ∃ (k n7 c7 : Nat) (a7 : Option Addr), k ≤ n ∧ ii = .int .i64 (k : Int) ∧ vv = .slice a7 n7 c7 ∧ n7 ≤ 10 + 400 * k ∧ 1 ≤ n7 ∧ Hid (V.Has wr a7 n7 c7 (V.enc n ++ V.lbs (R.take k))) ∧ Hid (Below w.heap.size w wr)) (fun _ ii _ => n - (intOf ii).toNat)
  case atStart => exact ⟨0, n2, c2, a2, Nat.zero_le _, rfl, rfl, hn2, (by have := H2.out.hlen; have := enc_len10 n; omega), (by show V.Has _ _ _ _ _; rw [List.take_zero]; show V.Has _ _ _ _ (V.enc n ++ []); rw [List.append_nil]; exact H2.out), b2⟩
  case round =>
    clear H2 b2 hn2
    obtain ⟨k, n7, c7, a7, hk, rfl, rfl, hn7, hn71, H7, hB⟩ := hrel
    by_cases hkn : k < n
    · obtain ⟨b, off, rfl, hbl, hcl⟩ := hcells.out (by omega)
      obtain ⟨d0, d1⟩ := hcl k hkn
      have i1 : (k : Int) < (n : Int) := by omega
      have hmem : R.getD k noLab ∈ R := by
        have hk' : k < R.length := by rw [hlen.out]; exact hkn
        rw [List.getD, List.getElem?_eq_getElem hk', Option.getD_some]; exact List.getElem_mem hk'
      have hxs := hsz.out _ hmem
      have htk := lbs_take (R := R) (k := k) (by rw [hlen.out]; exact hkn)
      have d0' : wr.cell? ⟨b, off + k * 2, none⟩ = some (.string (R.getD k noLab).1) := (hB.out.cell (p := ⟨b, off + k * 2, none⟩) hbl).trans d0
      have d1' : wr.cell? ⟨b, off + k * 2 + 1, none⟩ = some (.string (R.getD k noLab).2) := (hB.out.cell (p := ⟨b, off + k * 2 + 1, none⟩) hbl).trans d1
      clear d0 d1 hmem hcl
      generalize R.getD k noLab = x at hxs htk d0' d1'
      obtain ⟨x0, x1⟩ := x
      simp only at hxs htk d0' d1'
      have N0 : Hid (Below wr.heap.size wr (wr.alloc (.cells #[.string x0, .string x1] 38))) := (Below.refl _ wr).alloc (Nat.le_refl _) _
      have X0 := hide (Box2.new wr x0 x1 38)
      obtain ⟨e1, V1, rv1, HV1, BV1⟩ := str_bytes (wr.alloc (.cells #[.string x0, .string x1] 38)) x0 (by omega)
      rw [World.size_alloc] at rv1
      have NV1 := hide (N0.out.trans (BV1.mono N0.out.size))
      have XV1 := hide (X0.out.kept BV1 X0.out.2.2.2)
      have P1 := hide (V.PutBytes_any V1 a7 n7 c7 _ (H7.out.kept NV1.out (Nat.le_refl _)) (by omega) _ _ e1 (V.nums x0) HV1 (by omega))
      rw [World.size_alloc] at P1
      replace htk := hide htk
      clear BV1 HV1 N0
      go_wp2_with fail
      refine P1.out.mono ?_
      rintro e W3 ⟨a3, n3, c3, rfl, H3, B3⟩
      have N3 := hide (NV1.out.trans (B3.mono NV1.out.size))
      have X3 := XV1.out.kept B3 XV1.out.2.2.2
      have hn3 : n3 ≤ n7 + 10 + 64 ∧ 1 ≤ n3 := by
        have e1 := H3.hlen; have e2 := H7.out.hlen; have e3 := enc_len10 x0.size; have e4 := V.nums_len x0
        simp only [List.length_append] at e1 e2
        omega
      obtain ⟨e5, V5, rv5, HV5, BV5⟩ := str_bytes W3 x1 (by omega)
      have NV5 := hide (N3.out.trans (BV5.mono N3.out.size))
      have P5 := hide (V.PutBytes_any V5 a3 n3 c3 _ (H3.kept BV5 (Nat.le_refl _)) (by omega) _ _ e5 (V.nums x1) HV5 (by omega))
      obtain ⟨⟨p0, p1⟩, p2, p3, p4⟩ := X3
      replace H3 := hide H3
      clear P1 B3 NV1 XV1 X0 rv1 BV5 HV5
      go_wp2_with fail
      refine P5.out.mono ?_
      rintro e W6 ⟨a6, n6, c6, rfl, H6, B6⟩
      have N6 := hide (NV5.out.trans (B6.mono NV5.out.size))
      have hn6 : n6 ≤ n3 + 10 + 256 ∧ 1 ≤ n6 := by
        have e1 := H6.hlen; have e2 := H3.out.hlen; have e3 := enc_len10 x1.size; have e4 := V.nums_len x1
        simp only [List.length_append] at e1 e2
        omega
      have b6 := hide (hB.out.trans (N6.out.mono hB.out.size))
      have H6' : Hid (V.Has W6 a6 n6 c6 (V.enc n ++ V.lbs (R.take (k + 1)))) := by
        show V.Has _ _ _ _ _
        rw [htk.out]
        simp only [List.append_assoc] at H6 ⊢
        exact H6
      clear P5 B6 N6 NV5 rv5 H6 p0 p1 p2 p3 p4
      go_wp2_with fail
      go_roundw
      case rel => exact ⟨k + 1, n6, c6, a6, hkn, by go_num, rfl, by omega, by omega, H6', b6⟩
      case measure => simp [intOf]; omega
    · obtain rfl : k = n := by omega
      have hall : Hid (V.enc k ++ V.lbs (R.take k) = V.bytesL R) := by
        show _ = _
        unfold V.bytesL
        rw [hlen.out, List.take_of_length_le (by rw [hlen.out]; exact Nat.le_refl _)]
      have N0 : Hid (Below wr.heap.size wr (wr.alloc (.cells #[.slice a len cap, .slice a7 n7 c7] 24))) := (Below.refl _ wr).alloc (Nat.le_refl _) _
      have CC := concat_two (wr.alloc (.cells #[.slice a len cap, .slice a7 n7 c7] 24)) wr.heap.size a a7 len n7 cap c7 l _ ((h.out.kept hB.out (Nat.le_refl _)).kept N0.out (Nat.le_refl _)) (H7.out.kept N0.out (Nat.le_refl _)) (cells2 wr _ _ 24).1 (cells2 wr _ _ 24).2 (by simp) (by omega) (by omega) hn71
      rw [hall.out] at CC
      replace CC := hide CC
      go_wp2_with fail
      refine CC.out.mono ?_
      rintro e W3 ⟨a3, n3, c3, rfl, H3, B3⟩
      have b3 := hide (hB.out.trans ((N0.out.trans (B3.mono N0.out.size)).mono hB.out.size))
      replace H3 := hide H3
      clear CC B3
      go_wp2_with fail
      go_ret2
      exact ⟨a3, n3, c3, rfl, H3.out, b3.out⟩
theorem Put_no (w : World) (v : Value) (aL : Option Addr) (n cL : Nat) (R : List Lab) (hL : HasB w aL n cL R) (hc : chkB R = false) :
    Calls Try.prog 6 #[v, .slice aL n cL] w fun e w' => e = .returned (.tuple #[.slice none 0 0, .int .i64 40]) ∧ Below w.heap.size w w' := by
  have rc := check_any w aL n cL R hL
  rw [errB_no hc] at rc
  replace rc := hide rc
  clear hc hL
  go_enter Try.func6, Try.ntmps6
  go_wp2_with fail
  refine rc.out.mono ?_
  rintro e W1 ⟨rfl, B1⟩
  replace B1 := hide B1
  clear rc
  go_wp2_with fail
  go_ret2
  exact ⟨rfl, B1.out⟩
end Go.Proofs.Ytlmpndmceiihaaa
