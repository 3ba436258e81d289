/-
  SymFull's walk.
-/
import Derived.Test.YtbinnpadmajgpaaS
namespace Go.Proofs.Ytbinnpadmajgpaa
open Go.RowKit Go.Shelf
set_option linter.unusedVariables false
set_option linter.unusedSimpArgs false
set_option maxRecDepth 100000

theorem u8_all : ∀ i : Fin 256, (UInt8.ofNat i.val).toNat = i.val := by decide +kernel
theorem conv_pt (w : World) (i x y : Nat) (hx : i / 256 = x) (hy : i % 256 = y) (hx2 : x < 256) : (convert 23 9 (.slice (some ⟨w.heap.size, 0, none⟩) 2 2)).run Try.prog (w.alloc (.cells #[.int .u8 (x : Int), .int .u8 (y : Int)] 5)) = .ok (.string ⟨(pt i).toArray⟩) (w.alloc (.cells #[.int .u8 (x : Int), .int .u8 (y : Int)] 5)) := by
  have h := V.has_lit w [(x : Int), (y : Int)] (by
    intro z hz
    simp only [List.mem_cons, List.not_mem_nil, or_false] at hz
    rcases hz with rfl | rfl <;> omega) (by simp [maxLen])
  have := V.run_string h
  rw [txt_str] at this
  subst hx hy
  exact this
set_option maxHeartbeats 4000000 in
theorem full_any (m : Int) (w : World) : Calls Try.prog 5 #[.int .i64 m] w fun e w' => e = .returned (.bool true) ∧ Below w.heap.size w w' := by
  obtain ⟨r, hr, AM⟩ := among_ex m 3 (by omega) (by omega)
  have WK := hide (works_any w)
  replace AM := hide AM
  go_enter Try.func5, Try.ntmps5
  go_wp2_with fail
  refine WK.out.mono ?_
  rintro e w1 ⟨rfl, B1⟩
  have ER := hide (empty_row w1)
  have B1' : Hid (Below w.heap.size w (w1.alloc (.cells #[] 9))) := B1.alloc B1.size _
  have z1 := hide B1.size
  clear WK B1
  go_wp2_with fail
  go_loopw [3, 4] (fun vv ii wr => ∃ (i g cc : Nat), i ≤ 4096 + r ∧ ii = .int .i64 (i : Int) ∧ vv = .slice (some ⟨g, 0, none⟩) i cc ∧ Hid (wr.ownsRow w1.heap.size 9 1 (.slice (some ⟨g, 0, none⟩) i cc) i ((pts i).map encStr)) ∧ Hid (Below w.heap.size w wr) ∧ Hid (w1.heap.size ≤ wr.heap.size)) (fun _ ii _ => 4096 + r - (intOf ii).toNat)
  case atStart => exact ⟨0, _, _, Nat.zero_le _, rfl, rfl, ER, B1', by show _ ≤ _; simp⟩
  case round =>
    obtain ⟨i, g, cc, hi, rfl, rfl, O, B, hz⟩ := hrel
    have hr2 : (r : Int) < 3 := by omega
    have AMw := hide (AM.out wr)
    by_cases hlt : i < 4096 + r
    · have j1 : (i : Int) < 4096 + (r : Int) := by omega
      obtain ⟨x, hx⟩ : ∃ x, i / 256 = x := ⟨_, rfl⟩
      obtain ⟨y, hy⟩ : ∃ y, i % 256 = y := ⟨_, rfl⟩
      have x1 : x < 256 := by omega
      have y1 : y < 256 := by omega
      have d1 : (i : Int) / 256 = (x : Int) := by omega
      have d2 : (i : Int) % 256 = (y : Int) := by omega
      have d3 : (i : Int).tdiv 256 = (x : Int) := by rw [Int.tdiv_eq_ediv_of_nonneg (by omega)]; exact d1
      have d4 : (i : Int).tmod 256 = (y : Int) := by rw [Int.tmod_eq_emod_of_nonneg (by omega)]; exact d2
      have cv := conv_pt wr i x y hx hy x1
      replace hx := hide hx
      replace hy := hide hy
      go_wp2_with fail
      refine AMw.out.mono ?_
      rintro e w2 ⟨rfl, rfl⟩
      have B2 : Below w.heap.size w ((w2.alloc (.cells #[.int .u8 (x : Int), .int .u8 (y : Int)] 5)).alloc (.cells #[.string ⟨(pt i).toArray⟩] 9)) := (B.out.alloc B.out.size _).alloc (by have := B.out.size; simp; omega) _
      have O2 := (O.out.alloc (.cells #[.int .u8 (x : Int), .int .u8 (y : Int)] 5)).alloc (.cells #[.string ⟨(pt i).toArray⟩] 9)
      have O2lt := hide O2.lt
      replace B2 := hide B2
      replace O2 := hide O2
      clear AMw
      go_wp2_with (first
        | (refine wpList_pushT rfl (.tmp 20) (.tmp 29) rfl w1.heap.size _ i (pts i) rfl O2.out (w2.heap.size + 1) (pt i) rfl (by simp) (by omega) (by have := hz.out; simp; omega) ?_; intro g6 c6 w6 O6 G6))
      have B6 := hide (B2.out.grown G6 B2.out.size (fun k e => by have := (O2lt.out k e).1; have := z1.out; omega))
      have hz6 := hide (show w1.heap.size ≤ w6.heap.size by have q := G6.size; have := hz.out; simp at q; omega)
      rw [← pts_snoc] at O6
      replace O6 := hide O6
      clear G6 cv
      go_wp2_with fail
      go_roundw
      case rel => exact ⟨i + 1, g6, c6, by omega, by go_num, rfl, O6, B6, hz6⟩
      case measure => simp [intOf]; omega
    · obtain rfl : i = 4096 + r := by omega
      have j1 : ¬ (((4096 + r : Nat) : Int) < 4096 + (r : Int)) := by omega
      obtain ⟨n, hn⟩ : ∃ n, 4096 + r = n := ⟨_, rfl⟩
      rw [hn] at O ⊢
      have en : 4096 + (r : Int) = (n : Int) := by omega
      have n1 : n ≤ 4098 := by omega
      have n2 : 4096 ≤ n := by omega
      have n3 : ¬ ((n : Int) < (n : Int)) := by omega
      obtain ⟨a5, c5, e5, H5⟩ := hasS_of_owns O.out
      cases e5
      clear j1 hi
      replace hn := hide hn
      by_cases h4 : n ≤ 4096
      · obtain rfl : n = 4096 := by omega
        have MK := hide (make_ok wr _ _ _ _ H5 (by omega) (pts_ok 4096 (by omega)))
        have hml := pts_mk 4096 (by omega)
        have hgd := good_mk (pts_ok 4096 (by omega))
        have hms : ∀ s ∈ mk (pts 4096), s.length ≤ 2 := fun s hs => by have := pts_sz 4096 s (mem_mk.1 hs); omega
        have hbl : (tabB (mk (pts 4096))).length ≤ 1000000 := by have := tab_len 2 _ hms; rw [hml] at this; omega
        have LN := hide (fun a n c w => len_any a n c w)
        replace H5 := hide H5
        generalize mk (pts 4096) = L at *
        go_wp2_with fail
        refine AMw.out.mono ?_
        rintro e w2 ⟨rfl, rfl⟩
        go_wp2_with fail
        refine MK.out.mono ?_
        rintro e w3 ⟨v, rfl, ⟨a3, n3, c3, rfl, H3⟩, B3⟩
        obtain rfl : n3 = 4096 := by rw [← H3.hlen]; exact hml
        have b3 := hide (B.out.trans (B3.mono B.out.size))
        have C4 : Below w3.heap.size w3 (w3.alloc (.cells #[.slice (some a3) 4096 c3] 27)) := (Below.refl _ _).alloc (Nat.le_refl _) _
        have q4 : (w3.alloc (.cells #[.slice (some a3) 4096 c3] 27)).cell? ⟨w3.heap.size, 0, none⟩ = some (.slice (some a3) 4096 c3) := by simp
        have z4 : (w3.alloc (.cells #[.slice (some a3) 4096 c3] 27)).heap.size = w3.heap.size + 1 := by simp
        have H4 := H3.kept C4 (Nat.le_refl _)
        obtain ⟨w4, hw4⟩ : ∃ w4, w3.alloc (.cells #[.slice (some a3) 4096 c3] 27) = w4 := ⟨_, rfl⟩
        rw [hw4] at C4 q4 z4 H4
        have b4 := hide (b3.out.trans (C4.mono b3.out.size))
        have BY := hide (bytes_any a3 4096 c3 L w4 H4 (fun s hs => hgd.2.1 s hs) (by omega))
        replace z4 := hide z4
        clear H3 B3 C4 MK AMw H4
        go_wp2_with fail
        refine BY.out.mono ?_
        rintro e w5 ⟨a5, n5, c5, rfl, H5', B5⟩
        have q5 := (B5.cell (p := ⟨w3.heap.size, 0, none⟩) (show w3.heap.size < _ by have := z4.out; omega)).trans q4
        have z5 := hide (show w3.heap.size + 1 ≤ w5.heap.size by have := z4.out; have := B5.size; omega)
        have b5 := hide (b4.out.trans (B5.mono b4.out.size))
        have hn5 := H5'.hlen
        have RB := hide (read_back w5 a5 n5 c5 L [] hgd (by rw [List.append_nil]; exact H5') (by omega))
        replace H5' := hide H5'
        replace hn5 := hide hn5
        clear BY B5 q4
        go_wp2_with fail
        refine RB.out.mono ?_
        rintro e w6 ⟨v6, rfl, ⟨a6, n6, c6, rfl, H6⟩, B6⟩
        obtain rfl : n6 = 4096 := by rw [← H6.hlen]; exact hml
        have q6 := (B6.cell (p := ⟨w3.heap.size, 0, none⟩) (show w3.heap.size < _ by have := z5.out; omega)).trans q5
        have z6 := hide (show w3.heap.size + 1 ≤ w6.heap.size by have := z5.out; have := B6.size; omega)
        have b6 := hide (b5.out.trans (B6.mono b5.out.size))
        have C7 : Below w6.heap.size w6 (w6.alloc (.cells #[.slice (some a6) 4096 c6] 27)) := (Below.refl _ _).alloc (Nat.le_refl _) _
        have q7 : (w6.alloc (.cells #[.slice (some a6) 4096 c6] 27)).cell? ⟨w3.heap.size, 0, none⟩ = some (.slice (some a3) 4096 c3) := (C7.cell (p := ⟨w3.heap.size, 0, none⟩) (show w3.heap.size < _ by have := z6.out; omega)).trans q6
        have p7 : (w6.alloc (.cells #[.slice (some a6) 4096 c6] 27)).cell? ⟨w6.heap.size, 0, none⟩ = some (.slice (some a6) 4096 c6) := by simp
        have z7 : (w6.alloc (.cells #[.slice (some a6) 4096 c6] 27)).heap.size = w6.heap.size + 1 := by simp
        obtain ⟨w7, hw7⟩ : ∃ w7, w6.alloc (.cells #[.slice (some a6) 4096 c6] 27) = w7 := ⟨_, rfl⟩
        rw [hw7] at C7 q7 p7 z7
        have b7 := hide (b6.out.trans (C7.mono b6.out.size))
        replace z7 := hide z7
        replace H6 := hide H6
        clear RB B6 q5 q6 C7
        go_wp2_with fail
        refine (LN.out _ _ _ _).mono ?_
        rintro e w8 ⟨rfl, B8⟩
        have p8 := (B8.cell (p := ⟨w6.heap.size, 0, none⟩) (show w6.heap.size < _ by have := z7.out; omega)).trans p7
        have b8 := hide (b7.out.trans (B8.mono b7.out.size))
        clear q7 p7 B8
        go_wp2_with fail
        refine (LN.out _ _ _ _).mono ?_
        rintro e w9 ⟨rfl, B9⟩
        have b9 := hide (b8.out.trans (B9.mono b8.out.size))
        clear p8 B9
        go_wp2_with fail
        go_ret
        exact ⟨rfl, b9.out⟩
      · have i4 : (4096 : Int) < (n : Int) := by omega
        have MN := hide (make_no wr _ _ _ _ H5 (by omega) (pts_no n (by omega) (by omega)))
        unfold voidV at MN
        have LN := hide (fun w => len_any none 0 0 w)
        replace H5 := hide H5
        go_wp2_with fail
        refine AMw.out.mono ?_
        rintro e w2 ⟨rfl, rfl⟩
        go_wp2_with fail
        refine MN.out.mono ?_
        rintro e w3 ⟨rfl, B3⟩
        have b3 := hide (B.out.trans (B3.mono B.out.size))
        clear MN B3 AMw
        go_wp2_with fail
        refine (LN.out _).mono ?_
        rintro e w4 ⟨rfl, B4⟩
        have b4 := hide ((b3.out.alloc b3.out.size (.cells #[.slice none 0 0] 27)).trans (B4.mono (by have := b3.out.size; simp; omega)))
        clear B4
        go_wp2_with fail
        go_ret
        exact ⟨rfl, b4.out⟩
end Go.Proofs.Ytbinnpadmajgpaa
