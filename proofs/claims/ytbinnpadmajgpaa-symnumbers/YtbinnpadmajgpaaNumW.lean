/-
  SymNumbers' walk.
-/
import Derived.Test.YtbinnpadmajgpaaU
namespace Go.Proofs.Ytbinnpadmajgpaa
open Go.RowKit Go.Shelf
set_option linter.unusedVariables false
set_option linter.unusedSimpArgs false
set_option maxRecDepth 100000

theorem okL_same {l m : List Tx} (h : ∀ x, x ∈ m ↔ x ∈ l) (hl : OkL l) : OkL m := ⟨fun s hs => hl.1 s ((h s).1 hs), by rw [mk_ext h]; exact hl.2⟩
theorem mem_turned (l : List Tx) (k : Nat) (x : Tx) : x ∈ l.drop k ++ l.take k ++ l ↔ x ∈ l := by
  rw [List.mem_append, List.mem_append]
  constructor
  · rintro ((h | h) | h)
    · exact List.mem_of_mem_drop h
    · exact List.mem_of_mem_take h
    · exact h
  · exact .inr
theorem cut_lo (g n c k : Nat) (hk : k ≤ n) (hc : n ≤ c) (hn : n ≤ 1000) : ∃ (ad1 : Addr) (c1 : Nat), (∀ W, (Instr.sliceAt 22 (.slice (some ⟨g, 0, none⟩) n c) (some (.int .i64 (k : Int))) none none).run Try.prog W = .ok (.slice (some ad1) (n - k) c1) W) ∧ (k < n → ad1 = ⟨g, k, none⟩) := by
  refine ⟨if c = k then ⟨g, 0, none⟩ else ⟨g, k, none⟩, c - k, fun W => ?_, fun h => if_neg (by omega)⟩
  have hu := Try.underlying22
  have hs : ∀ w, (sizeOf 9).run Try.prog w = .ok 1 w := size9
  have h1 : (k : Int) ≤ (n : Int) := by omega
  have h2 : (n : Int) ≤ (c : Int) := by omega
  have h3 : (k : Int) ≤ (c : Int) := by omega
  simp [go_sem, hu, h1, h2, h3, hs]
  split <;> rfl
theorem cut_hi (g n c k : Nat) (hk : k ≤ n) (hc : n ≤ c) (hn : n ≤ 1000) : ∀ W, (Instr.sliceAt 22 (.slice (some ⟨g, 0, none⟩) n c) none (some (.int .i64 (k : Int))) none).run Try.prog W = .ok (.slice (some ⟨g, 0, none⟩) k c) W := by
  intro W
  have hu := Try.underlying22
  have hs : ∀ w, (sizeOf 9).run Try.prog w = .ok 1 w := size9
  have h1 : (k : Int) ≤ (n : Int) := by omega
  have h3 : (k : Int) ≤ (c : Int) := by omega
  simp [go_sem, hu, h1, h3, hs]
theorem row_src {w : World} {g n c : Nat} {l : List Tx} (h : HasS w (some ⟨g, 0, none⟩) n c l) : ∀ j u, (l.map encStr)[j]? = some u → w.cell? ((⟨g, 0, none⟩ : Addr).add j) = some u := fun j u hj => by
  have hjl : j < l.length := by
    rcases Nat.lt_or_ge j l.length with h | h
    · exact h
    · rw [List.getElem?_eq_none (by simpa using h)] at hj; cases hj
  obtain ⟨b, off, e1, e2, e3⟩ := h.cells j (by rw [← h.hlen]; exact hjl)
  cases e1
  rw [add_plain, e3]
  simpa [List.getD, List.getElem?_eq_getElem hjl] using hj
theorem last_take {T : List Tx} {i : Nat} (hi : i < T.length) (h0 : 0 < i) (ha : Asc T) : lastT [] (T.take i) < T.getD i [] := by
  rw [lastT_getD _ _ (by rw [List.length_take]; omega), List.length_take, Nat.min_eq_left (by omega)]
  have e : (T.take i).getD (i - 1) [] = T.getD (i - 1) [] := by
    simp [List.getD, List.getElem?_take, show i - 1 < i by omega]
  rw [e]
  exact asc_getD ha (by omega) hi
set_option maxHeartbeats 4000000 in
theorem numbers_any (a0 : Option Addr) (len0 cap0 : Nat) (l0 : List Tx) (m : Int) (w : World) (H0 : HasA w a0 len0 l0) : Calls Try.prog 4 #[.slice a0 len0 cap0, .int .i64 m] w fun e w' => e = .returned (.bool true) ∧ Below w.heap.size w w' := by
  have WK := hide (works_any w)
  have LN := hide (fun a n c w => len_any a n c w)
  replace H0 := hide H0
  go_enter Try.func4, Try.ntmps4
  go_wp2_with fail
  refine WK.out.mono ?_
  rintro e w1 ⟨rfl, B1⟩
  have FW := hide (few_any w1 a0 len0 cap0 l0 ⟨H0.out.hlen, H0.out.lenb, H0.out.sizes, fun i hi => by
    obtain ⟨b, off, e1, e2, e3⟩ := H0.out.cells i hi
    exact ⟨b, off, e1, Nat.lt_of_lt_of_le e2 B1.size, (B1.cell (p := ⟨b, off + i, none⟩) e2).trans e3⟩⟩)
  replace B1 := hide B1
  clear WK H0
  go_wp2_with fail
  refine FW.out.mono ?_
  rintro e w2 ⟨v, rfl, O2, ⟨g, c, rfl⟩, B2⟩
  have b2 := hide (B1.out.trans (B2.mono B1.out.size))
  have hl60 := fewL_len l0
  have hl257 := fewL_sz l0
  generalize fewL l0 = l at *
  obtain ⟨n, hn⟩ : ∃ n, l.length = n := ⟨_, rfl⟩
  rw [hn] at O2 hl60 ⊢
  obtain ⟨a2, c2, e2, H2⟩ := hasS_of_owns O2
  cases e2
  replace O2 := hide O2
  clear FW B2
  by_cases hk : OkL l
  · have MK := hide (make_ok w2 _ n c l H2 (by omega) hk)
    have hg := hide (good_mk hk)
    have hml := hide (mk_len l)
    generalize hT : mk l = T at *
    replace H2 := hide H2
    replace hk := hide hk
    replace hn := hide hn
    replace hT := hide hT
    go_wp2_with fail
    refine MK.out.mono ?_
    rintro e w3 ⟨v3, rfl, ⟨a3, n3, c3, rfl, H3⟩, B3⟩
    have hn3 := hide H3.hlen
    have n3b : n3 ≤ 60 := by have := hml.out; rw [hn.out] at this; have := hn3.out; omega
    have b3 := hide (b2.out.trans (B3.mono b2.out.size))
    have h3 := hide (H2.out.kept B3 (Nat.le_refl _))
    have C4 : Below w3.heap.size w3 (w3.alloc (.cells #[.slice (some a3) n3 c3] 27)) := (Below.refl _ _).alloc (Nat.le_refl _) _
    have q4 : (w3.alloc (.cells #[.slice (some a3) n3 c3] 27)).cell? ⟨w3.heap.size, 0, none⟩ = some (.slice (some a3) n3 c3) := by simp
    have z4 : (w3.alloc (.cells #[.slice (some a3) n3 c3] 27)).heap.size = w3.heap.size + 1 := by simp
    have H4 := H3.kept C4 (Nat.le_refl _)
    obtain ⟨w4, hw4⟩ : ∃ w4, w3.alloc (.cells #[.slice (some a3) n3 c3] 27) = w4 := ⟨_, rfl⟩
    rw [hw4] at C4 q4 z4 H4
    have b4 := hide (b3.out.trans (C4.mono b3.out.size))
    have h4 := hide (h3.out.kept C4 (Nat.le_refl _))
    replace z4 := hide z4
    replace H4 := hide H4
    replace q4 := hide q4
    clear H3 B3 C4 MK h3 O2 H2
    go_wp2_with fail
    go_loopw [7, 8] (fun la ii wr => ∃ i : Nat, i ≤ n3 ∧ la = encStr (lastT [] (T.take i)) ∧ ii = .int .i64 (i : Int) ∧ Hid (Below w4.heap.size w4 wr)) (fun _ ii _ => n3 - (intOf ii).toNat)
    case atStart => exact ⟨0, Nat.zero_le _, rfl, rfl, Below.refl _ _⟩
    case round =>
      obtain ⟨i, hi, rfl, rfl, B⟩ := hrel
      have bw := hide (b4.out.trans (B.out.mono b4.out.size))
      have q5 := (B.out.cell (p := ⟨w3.heap.size, 0, none⟩) (show w3.heap.size < _ by have := z4.out; omega)).trans q4.out
      have z5 := hide (show w3.heap.size + 1 ≤ wr.heap.size by have := z4.out; have := B.out.size; omega)
      have H5 := hide (H4.out.kept B.out (Nat.le_refl _))
      by_cases hlt : i < n3
      · have i1 : (i : Int) < (n3 : Int) := by omega
        have hiT : i < T.length := by rw [hn3.out]; exact hlt
        obtain ⟨s, hs⟩ : ∃ s, T.getD i [] = s := ⟨_, rfl⟩
        have htk : Hid (lastT [] (T.take (i + 1)) = s) := by
          show _ = _
          rw [take_snoc' hiT, lastT_snoc]; exact hs
        have hls : Hid (0 < i → lastT [] (T.take i) < s) := fun h0 => by rw [← hs]; exact last_take hiT h0 hg.out.1
        replace hs := hide hs
        generalize lastT [] (T.take i) = la at *
        clear hiT
        go_wp2_with fail
        refine (LN.out _ _ _ _).mono ?_
        rintro e w5 ⟨rfl, B5⟩
        have q6 := (B5.cell (p := ⟨w3.heap.size, 0, none⟩) (show w3.heap.size < _ by have := z5.out; omega)).trans q5
        have z6 := hide (show w3.heap.size + 1 ≤ w5.heap.size by have := z5.out; have := B5.size; omega)
        have H6 := hide (H5.out.kept B5 (Nat.le_refl _))
        have c5 := hide (B.out.trans (B5.mono B.out.size))
        have GE := hide (get_any a3 n3 c3 T i w5 H6.out hlt (by omega))
        rw [hs.out] at GE
        clear B5 q5
        go_wp2_with fail
        refine GE.out.mono ?_
        rintro e w6 ⟨rfl, B6⟩
        have q7 := (B6.cell (p := ⟨w3.heap.size, 0, none⟩) (show w3.heap.size < _ by have := z6.out; omega)).trans q6
        have z7 := hide (show w3.heap.size + 1 ≤ w6.heap.size by have := z6.out; have := B6.size; omega)
        have H7 := hide (H6.out.kept B6 (Nat.le_refl _))
        have c6 := hide (c5.out.trans (B6.mono c5.out.size))
        have FI := hide (find_any a3 n3 c3 T i w6 H7.out hlt hg.out.1 (by omega))
        rw [hs.out] at FI
        clear B6 q6 GE
        go_wp2_with fail
        refine FI.out.mono ?_
        rintro e w7 ⟨rfl, B7⟩
        have c7 := hide (c6.out.trans (B7.mono c6.out.size))
        clear FI B7 q7
        by_cases h0 : i = 0
        · have k0 : ¬ ((0 : Int) < (i : Int)) := by omega
          have k1 : ((i : Int) != (i : Int)) = false := by simp
          replace h0 := hide h0
          go_wp2_with fail
          go_roundw
          case rel => exact ⟨i + 1, hlt, by rw [htk.out], by go_num, c7⟩
          case measure => simp [intOf]; omega
        · have k0 : (0 : Int) < (i : Int) := by omega
          have k1 : ((i : Int) != (i : Int)) = false := by simp
          have hlt2 := hls.out (by omega)
          have k2 : Op.bytesLess s la = false := by rw [bytesLess_eq]; exact decide_eq_false (fun h => List.lt_irrefl _ (List.lt_trans h hlt2))
          have k3 : (s == la) = false := by
            rw [beq_eq_false_iff_ne]
            rintro rfl
            exact List.lt_irrefl _ hlt2
          replace hlt2 := hide hlt2
          go_wp2_with fail
          go_roundw
          case rel => exact ⟨i + 1, hlt, by rw [htk.out], by go_num, c7⟩
          case measure => simp [intOf]; omega
      · obtain rfl : i = n3 := by omega
        have i1 : ¬ ((i : Int) < (i : Int)) := by omega
        go_wp2_with fail
        refine (LN.out _ _ _ _).mono ?_
        rintro e w5 ⟨rfl, B5⟩
        have q6 := (B5.cell (p := ⟨w3.heap.size, 0, none⟩) (show w3.heap.size < _ by have := z5.out; omega)).trans q5
        have z6 := hide (show w3.heap.size + 1 ≤ w5.heap.size by have := z5.out; have := B5.size; omega)
        have H6 := hide (H5.out.kept B5 (Nat.le_refl _))
        have c5 := hide (B.out.trans (B5.mono B.out.size))
        have b5 := hide (b4.out.trans (c5.out.mono b4.out.size))
        have h5 := hide (h4.out.kept c5.out (Nat.le_refl _))
        clear B5 q5 bw H5
        generalize encStr (lastT [] (T.take i)) = lv at *
        obtain ⟨N1, hN1⟩ : ∃ N1, n + 1 = N1 := ⟨_, rfl⟩
        have eN : (n : Int) + 1 = (N1 : Int) := by omega
        obtain ⟨k, hkn, AM⟩ := among_ex m N1 (by omega) (by omega)
        have AMw := hide (AM w5)
        replace hN1 := hide hN1
        clear AM
        go_wp2_with fail
        refine AMw.out.mono ?_
        rintro e w6 ⟨rfl, rfl⟩
        obtain ⟨ad1, c1, hs1, had⟩ := cut_lo g n c k (by have := hN1.out; omega) h5.out.le (by omega)
        have hs2 := cut_hi g n c k (by have := hN1.out; omega) h5.out.le (by omega)
        have hc2 : ∀ W, Below w6.heap.size w6 W → ∀ j u, (l.map encStr)[j]? = some u → W.cell? ((⟨g, 0, none⟩ : Addr).add j) = some u := fun W hW j u hj => row_src (h5.out.kept hW (Nat.le_refl _)) j u hj
        have hc1 : ∀ W, Below w6.heap.size w6 W → ∀ j u, ((l.drop k).map encStr)[j]? = some u → W.cell? (ad1.add j) = some u := fun W hW j u hj => by
          have hjl : k + j < n := by
            rcases Nat.lt_or_ge (k + j) n with h | h
            · exact h
            · rw [List.getElem?_eq_none (by rw [List.length_map, List.length_drop, hn.out]; omega)] at hj; cases hj
          rw [had (by omega), add_plain]
          rw [List.map_drop, List.getElem?_drop] at hj
          have := hc2 W hW (k + j) u hj
          rw [add_plain, Nat.zero_add] at this
          exact this
        have hM : ∀ W a n' c', Below w6.heap.size w6 W → HasS W a n' c' (l.drop k ++ l.take k ++ l) → Calls Try.prog 7 #[.slice a n' c'] W fun e w' => ∃ v, e = .returned (.tuple #[v, .int .i64 0]) ∧ TabV w' v T ∧ Below W.heap.size W w' := fun W a n' c' hW hS => by
          have hn' : n' ≤ 1000 := by
            rw [← hS.hlen]; simp only [List.length_append, List.length_drop, List.length_take, hn.out]; omega
          have := make_ok W a n' c' _ hS (by omega) (okL_same (mem_turned l k) hk.out)
          rwa [mk_ext (mem_turned l k), hT.out] at this
        have R17 := hide (fun h1 h2 => reg4_17 w6 g n c k (n - k) c1 ad1 l T hn.out h1 h2 rfl hs1 hs2 hc1 hc2 hM)
        clear AMw hs1 hs2 hc1 hc2 hM had h4 h5
        go_wp2_with fail
        refine R17.out (by omega) (by have := hN1.out; omega) _ _ _ _ _ _ _ _ _ _ _ _ _ _ _ _ _ _ _ _ _ _ _ _ _ _ _ _ _ _ _ _ _ _ _ _ _ _ _ _ _ _ _ _ _ _ _ _ _ _ _ _ _ _ _ _ _ _ _ _ _ _ _ _ _ _ _ _ _ _ _ _ _ _ _ _ _ _ _ _ _ _ _ _ _ _ _ _ _ _ _ _ _ _ _ _ _ _ _ _ _ _ _ _ (fun w7 gB X75 X79 X83 X85 sl B7 hgB hbx TV => ?_)
        have q8 := (B7.cell (p := ⟨w3.heap.size, 0, none⟩) (show w3.heap.size < _ by have := z6.out; omega)).trans q6
        have b7 := hide (b5.out.trans (B7.mono b5.out.size))
        have H8 := hide (H6.out.kept B7 (Nat.le_refl _))
        obtain ⟨a8, n8, c8, e8, H9⟩ := TV
        obtain rfl : sl = .slice (some a8) n8 c8 := by simpa using e8
        obtain rfl : n8 = i := by rw [← H9.hlen]; exact hn3.out
        have p8 := cell_row hbx 0 (v := .slice (some a8) n8 c8) rfl
        have R18 := hide (reg4_18 w7 gB w3.heap.size n8 (.slice (some a8) n8 c8) (.slice (some a3) n8 c3) (tabB T) (fun W hW => ⟨ldv27 ((hW.cell (p := ⟨gB, 0, none⟩) (Array.getElem?_eq_some_iff.1 hbx).1).trans p8), ldv27 ((hW.cell (p := ⟨w3.heap.size, 0, none⟩) (show w3.heap.size < _ by have := z6.out; have := B7.size; omega)).trans q8)⟩)
          (fun W hW => bytes_any a8 n8 c8 T W (H9.kept hW (Nat.le_refl _)) hg.out.2.1 (by omega))
          (fun W hW => bytes_any a3 n8 c3 T W (H8.out.kept hW (Nat.le_refl _)) hg.out.2.1 (by omega))
          (fun W => len_any _ _ _ W) (fun W => len_any _ _ _ W))
        clear R17 B7 q6 q8 p8 H9 e8 hbx H6 H8
        go_wp2_with fail
        refine R18.out _ _ _ _ _ _ _ _ _ _ _ _ _ _ _ _ _ _ _ _ _ _ _ _ _ _ _ _ _ _ _ _ _ _ _ _ _ _ _ _ _ _ _ _ _ _ _ _ _ _ _ _ _ _ _ _ _ _ _ _ _ _ _ _ _ _ _ _ _ _ _ _ _ _ _ _ _ _ _ _ _ _ _ _ _ _ _ _ _ _ _ _ _ _ _ _ _ _ _ _ _ _ _ (fun w9 a1 n1 c1' a2' n2 c2' B9 => ?_)
        have b9 := hide (b7.out.trans (B9.mono b7.out.size))
        clear R18 B9
        go_wp2_with fail
        go_ret
        exact ⟨rfl, b9.out⟩
  · have MN := hide (make_no w2 _ n c l H2 (by omega) hk)
    unfold voidV at MN
    replace H2 := hide H2
    replace hk := hide hk
    replace hn := hide hn
    go_wp2_with fail
    refine MN.out.mono ?_
    rintro e w3 ⟨rfl, B3⟩
    have b3 := hide (b2.out.trans (B3.mono b2.out.size))
    clear MN B3
    go_wp2_with fail
    refine (LN.out _ _ _ _).mono ?_
    rintro e w4 ⟨rfl, B4⟩
    have b4 := hide ((b3.out.alloc b3.out.size (.cells #[.slice none 0 0] 27)).trans (B4.mono (by have := b3.out.size; simp; omega)))
    clear B4
    go_wp2_with fail
    go_ret
    exact ⟨rfl, b4.out⟩
end Go.Proofs.Ytbinnpadmajgpaa
