/-
  SymBack's walk.
-/
import Derived.Test.YtbinnpadmajgpaaW
namespace Go.Proofs.Ytbinnpadmajgpaa
open Go.RowKit Go.Shelf
set_option linter.unusedVariables false
set_option linter.unusedSimpArgs false
set_option maxRecDepth 100000

set_option maxHeartbeats 1000000 in
theorem bcopy_any (w : World) (a : Option Addr) (n c : Nat) (l : List Int) (h : V.Has w a n c l) (hn : n ≤ 1000000) : Calls Try.prog 11 #[.slice a n c] w (V.Ret w l) := by
  have B0 : Below w.heap.size w (w.alloc (.cells #[] 5)) := (Below.refl _ w).alloc (Nat.le_refl _) _
  have h0 := hide (h.kept B0 (Nat.le_refl _))
  have E0 := hide (V.owns_empty w)
  have hb := hide h.bytes
  replace B0 := hide B0
  clear h
  go_enter Try.func11, Try.ntmps11
  go_wp2_with (first
    | (at_builtin; refine V.wpList_app rfl (.tmp 3) (.tmp 4) rfl w.heap.size _ 0 [] rfl E0.out a n c l rfl h0.out (by omega) (by simp) ?_; intro v2 w2 O2 G2))
  have B2 := hide (B0.out.grown G2 B0.out.size (fun k e => (E0.out.lt k e).1))
  rw [Nat.zero_add, List.nil_append] at O2
  have R := hide (V.ret_of_owns O2 hb.out B2.out)
  clear O2 G2
  go_wp2_with fail
  go_ret
  exact R.out
/-- The rest of SymBack, from the second reading on: what is read has those bytes. -/
theorem front_has {w : World} {a : Option Addr} {n c : Nat} {l : List Int} (h : V.Has w a n c l) (k : Nat) (hk : k ≤ n) : V.Has w a k c (l.take k) := h.front k hk
set_option maxHeartbeats 4000000 in
theorem back_any (a0 : Option Addr) (len0 cap0 : Nat) (l0 : List Tx) (a1 : Option Addr) (n1 c1 : Nat) (l1 : List Int) (a2 : Option Addr) (n2 c2 : Nat) (l2 : List Int) (w : World) (H0 : HasA w a0 len0 l0) (H1 : V.Has w a1 n1 c1 l1) (H2 : V.Has w a2 n2 c2 l2) : Calls Try.prog 3 #[.slice a0 len0 cap0, .slice a1 n1 c1, .slice a2 n2 c2] w fun e w' => e = .returned (.bool true) ∧ Below w.heap.size w w' := by
  obtain ⟨q1, hq1⟩ : ∃ q, min n1 400 = q := ⟨_, rfl⟩
  obtain ⟨q2, hq2⟩ : ∃ q, min n2 40 = q := ⟨_, rfl⟩
  have e1 : (if (400 : Int) < (n1 : Int) then (400 : Int) else (n1 : Int)) = (q1 : Int) := by split <;> omega
  have e2 : (if (40 : Int) < (n2 : Int) then (40 : Int) else (n2 : Int)) = (q2 : Int) := by split <;> omega
  have h1le := H1.le
  have h2le := H2.le
  have F1 := hide (H1.front q1 (by omega))
  have F2 := hide (H2.front q2 (by omega))
  have q1b : q1 ≤ 400 := by omega
  have q2b : q2 ≤ 40 := by omega
  have R3 := hide (fun w => reg3_3 w a1 a2 n1 c1 q1 n2 c2 q2 e1 e2 (by omega) (by omega))
  generalize l1.take q1 = bb at *
  generalize l2.take q2 = mm at *
  have WK := hide (works_any w)
  have LN := hide (fun a n c w => len_any a n c w)
  replace H0 := hide H0
  clear H1 H2 e1 e2 hq1 hq2 h1le h2le
  go_enter Try.func3, Try.ntmps3
  go_wp2_with fail
  refine WK.out.mono ?_
  rintro e w1 ⟨rfl, B1⟩
  have F1b := hide (F1.out.kept B1 (Nat.le_refl _))
  have F2b := hide (F2.out.kept B1 (Nat.le_refl _))
  have H0b := hide (HasA.mk H0.out.hlen H0.out.lenb H0.out.sizes (fun i hi => by
    obtain ⟨b, off, e1, e2, e3⟩ := H0.out.cells i hi
    exact ⟨b, off, e1, Nat.lt_of_lt_of_le e2 B1.size, (B1.cell (p := ⟨b, off + i, none⟩) e2).trans e3⟩))
  replace B1 := hide B1
  clear WK H0 F1 F2
  go_wp2_with fail
  refine R3.out w1 _ _ _ _ _ _ _ _ _ _ _ _ _ _ _ _ _ _ _ _ _ _ _ _ _ _ _ _ _ _ _ _ _ _ _ _ _ _ _ _ _ _ _ _ _ _ _ _ _ _ _ _ _ _ _ _ _ _ _ _ _ _ _ _ _ _ _ _ _ _ _ _ _ _ _ _ _ _ _ _ _ _ _ _ _ _ _ _ _ _ _ _ _ _ _ _ ?_
  obtain ⟨w2, hw2⟩ : ∃ w2, w1.drew = w2 := ⟨_, rfl⟩
  have C2 : Below w1.heap.size w1 w2 := by rw [← hw2]; exact below_drew' (Below.refl _ _)
  rw [hw2]
  have b2 := hide (B1.out.trans (C2.mono B1.out.size))
  have F1c := hide (F1b.out.kept C2 (Nat.le_refl _))
  have F2c := hide (F2b.out.kept C2 (Nat.le_refl _))
  have FW := hide (few_any w2 a0 len0 cap0 l0 ⟨H0b.out.hlen, H0b.out.lenb, H0b.out.sizes, fun i hi => by
    obtain ⟨b, off, e1, e2, e3⟩ := H0b.out.cells i hi
    exact ⟨b, off, e1, Nat.lt_of_lt_of_le e2 C2.size, (C2.cell (p := ⟨b, off + i, none⟩) e2).trans e3⟩⟩)
  clear R3 hw2 C2 F1b F2b H0b B1
  go_wp2_with fail
  refine FW.out.mono ?_
  rintro e w3 ⟨v, rfl, O3, ⟨g, c, rfl⟩, B3⟩
  have b3 := hide (b2.out.trans (B3.mono b2.out.size))
  have F1d := hide (F1c.out.kept B3 (Nat.le_refl _))
  have F2d := hide (F2c.out.kept B3 (Nat.le_refl _))
  have hl60 := fewL_len l0
  generalize fewL l0 = l at *
  obtain ⟨n, hn⟩ : ∃ n, l.length = n := ⟨_, rfl⟩
  rw [hn] at O3 hl60 ⊢
  obtain ⟨a3, c3, e3, H3⟩ := hasS_of_owns O3
  cases e3
  replace hn := hide hn
  clear FW B3 F1c F2c O3
  by_cases hk : OkL l
  · skip
    have MK := hide (make_ok w3 _ n c l H3 (by omega) hk)
    have hg := hide (good_mk hk)
    have hml := hide (mk_len l)
    generalize mk l = T at *
    replace H3 := hide H3
    replace hk := hide hk
    go_wp2_with fail
    refine MK.out.mono ?_
    rintro e w4 ⟨v4, rfl, ⟨a4, n4, c4, rfl, H4⟩, B4⟩
    have hn4 := hide H4.hlen
    have n4b : n4 ≤ 60 := by have := hml.out; rw [hn.out] at this; have := hn4.out; omega
    have b4 := hide (b3.out.trans (B4.mono b3.out.size))
    have C5 : Below w4.heap.size w4 (w4.alloc (.cells #[.slice (some a4) n4 c4] 27)) := (Below.refl _ _).alloc (Nat.le_refl _) _
    have q5 : (w4.alloc (.cells #[.slice (some a4) n4 c4] 27)).cell? ⟨w4.heap.size, 0, none⟩ = some (.slice (some a4) n4 c4) := by simp
    have z5 : (w4.alloc (.cells #[.slice (some a4) n4 c4] 27)).heap.size = w4.heap.size + 1 := by simp
    have H5 := H4.kept C5 (Nat.le_refl _)
    obtain ⟨w5, hw5⟩ : ∃ w5, w4.alloc (.cells #[.slice (some a4) n4 c4] 27) = w5 := ⟨_, rfl⟩
    rw [hw5] at C5 q5 z5 H5
    have b5 := hide (b4.out.trans (C5.mono b4.out.size))
    have F1e := hide ((F1d.out.kept B4 (Nat.le_refl _)).kept C5 (Nat.le_refl _))
    have F2e := hide ((F2d.out.kept B4 (Nat.le_refl _)).kept C5 (Nat.le_refl _))
    have BY := hide (bytes_any a4 n4 c4 T w5 H5 hg.out.2.1 (by omega))
    replace z5 := hide z5
    clear H4 B4 C5 MK H5 F1d F2d
    go_wp2_with fail
    refine BY.out.mono ?_
    rintro e w6 ⟨a6x, n6x, c6x, rfl, Hx, B6⟩
    have b6 := hide (b5.out.trans (B6.mono b5.out.size))
    have F1f := hide (F1e.out.kept B6 (Nat.le_refl _))
    have F2f := hide (F2e.out.kept B6 (Nat.le_refl _))
    have hnx := hide Hx.hlen
    have hTl : (tabB T).length ≤ 20000 := by have := tab_len 256 T hg.out.2.1; have := hn4.out; omega
    have nxb : n6x ≤ 20000 := by have := hnx.out; omega
    have BC := hide (bcopy_any w6 a6x n6x c6x _ Hx (by omega))
    replace Hx := hide Hx
    clear BY B6 F1e F2e q5
    go_wp2_with fail
    refine BC.out.mono ?_
    rintro e w7 ⟨a7, n7, c7, rfl, H7, B7, O7⟩
    have b7 := hide (b6.out.trans (B7.mono b6.out.size))
    have F1g := hide (F1f.out.kept B7 (Nat.le_refl _))
    have F2g := hide (F2f.out.kept B7 (Nat.le_refl _))
    have B7h := hide B7
    obtain rfl : n7 = n6x := by have := H7.hlen; have := hnx.out; omega
    have z7 := hide B7.size
    have hxb := hide H7.bytes
    replace O7 := hide O7
    clear BC B7 H7 F2f
    go_wp2_with (first
      | (at_builtin; refine V.wpList_app rfl (.tmp 40) (.tmp 41) rfl w6.heap.size _ n7 (tabB T) rfl O7.out a2 q2 c2 mm rfl F2g.out (by omega) z7.out ?_; intro v8 w8 O8 G8))
    have B8 : Below w6.heap.size w6 w8 := B7h.out.trans ((Below.refl w6.heap.size w7).grown G8 z7.out (fun k e => (O7.out.lt k e).1))
    obtain ⟨a8, c8, rfl, H8⟩ := V.has_of_owns O8 (by
      intro y hy
      rcases List.mem_append.1 hy with h | h
      · exact hxb.out y h
      · exact F2g.out.bytes y h)
    have b8 := hide (b6.out.trans (B8.mono b6.out.size))
    have RB := hide (read_back w8 a8 (n7 + q2) c8 T mm hg.out H8 (by omega))
    have F1h := hide (F1f.out.kept B8 (Nat.le_refl _))
    have Hx8 := hide (Hx.out.kept B8 (Nat.le_refl _))
    have hTn : Hid ((tabB T).length = n7) := hnx.out
    have z8 := hide B8.size
    clear O8 G8 B8 H8 F1f F1g F2g Hx
    rw [hTn.out] at RB
    go_wp2_with fail
    refine RB.out.mono ?_
    rintro e w9 ⟨v9, rfl, ⟨a9, n9, c9, rfl, H9⟩, B9⟩
    have b9 := hide (b8.out.trans (B9.mono b8.out.size))
    have CA : Below w9.heap.size w9 (w9.alloc (.cells #[.slice (some a9) n9 c9] 27)) := (Below.refl _ _).alloc (Nat.le_refl _) _
    have qA : (w9.alloc (.cells #[.slice (some a9) n9 c9] 27)).cell? ⟨w9.heap.size, 0, none⟩ = some (.slice (some a9) n9 c9) := by simp
    have n9b : n9 ≤ 4096 := by rw [← H9.hlen]; exact hg.out.2.2
    have HA' := H9.kept CA (Nat.le_refl _)
    have F1j := hide ((F1h.out.kept B9 (Nat.le_refl _)).kept CA (Nat.le_refl _))
    have Hx9 := hide ((Hx8.out.kept B9 (Nat.le_refl _)).kept CA (Nat.le_refl _))
    obtain ⟨wA0, hwA0⟩ : ∃ wA0, w9.alloc (.cells #[.slice (some a9) n9 c9] 27) = wA0 := ⟨_, rfl⟩
    rw [hwA0] at CA qA HA' F1j Hx9
    have bA0 := hide (b9.out.trans (CA.mono b9.out.size))
    have BY2 := hide (bytes_any a9 n9 c9 T wA0 HA' hg.out.2.1 n9b)
    clear RB B9 CA H9 HA' F1h Hx8
    go_wp2_with fail
    refine BY2.out.mono ?_
    rintro e wB0 ⟨a10, n10, c10, rfl, H10, B10⟩
    have bB0 := hide (bA0.out.trans (B10.mono bA0.out.size))
    have F1k := hide (F1j.out.kept B10 (Nat.le_refl _))
    have SA := hide (V.same_yes wB0 _ _ _ _ _ _ _ _ H10 (Hx9.out.kept B10 (Nat.le_refl _)) rfl)
    replace H10 := hide H10
    clear BY2 B10 F1j Hx9 qA
    go_wp2_with fail
    refine SA.out.mono ?_
    rintro e wC0 ⟨rfl, rfl⟩
    clear SA
    have RD := hide (Read_any wC0 a1 q1 c1 bb 0 F1k.out (by omega) (Nat.zero_le _))
    have hbb := hide F1k.out.bytes
    have hbl := hide F1k.out.hlen
    go_wp2_with fail
    refine RD.out.mono ?_
    rintro e wA ⟨⟨n', k', P, m', L, v', r1, r2, r3, r4, rfl, ⟨a6, n6, c6, rfl, H6⟩⟩ | ⟨hno, m', hm', rfl⟩, BA⟩
    · rw [List.drop_zero] at r1
      rw [Nat.zero_add] at r2
      obtain ⟨t1, t2, t3⟩ := tab_forth hbb.out r1 r2 r4
      have hg := wths_good P [] L (by simp [Asc]) (by simp) r4
      obtain ⟨t, ht⟩ : ∃ t, k' + m' = t := ⟨_, rfl⟩
      rw [show 0 + k' + m' = t by omega]
      rw [ht] at t1 t2
      have bA := hide (bB0.out.trans (BA.mono bB0.out.size))
      have FA := F1k.out.kept BA (Nat.le_refl _)
      have CB : Below wA.heap.size wA (wA.alloc (.cells #[.slice (some a6) n6 c6] 27)) := (Below.refl _ _).alloc (Nat.le_refl _) _
      have qB : (wA.alloc (.cells #[.slice (some a6) n6 c6] 27)).cell? ⟨wA.heap.size, 0, none⟩ = some (.slice (some a6) n6 c6) := by simp
      have zB : (wA.alloc (.cells #[.slice (some a6) n6 c6] 27)).heap.size = wA.heap.size + 1 := by simp
      have HB := H6.kept CB (Nat.le_refl _)
      have FB := FA.kept CB (Nat.le_refl _)
      have n6b : n6 ≤ 4096 := by rw [← H6.hlen, t3]; exact r3
      obtain ⟨wB, hwB⟩ : ∃ wB, wA.alloc (.cells #[.slice (some a6) n6 c6] 27) = wB := ⟨_, rfl⟩
      rw [hwB] at CB qB zB HB FB
      have bB := hide (bA.out.trans (CB.mono bA.out.size))
      have htq : t ≤ q1 := by rw [← hbl.out]; exact t2
      have R11 := hide (reg3_11b wB wA.heap.size q1 c1 t a1 (.slice (some a6) n6 c6) (tabB L) (by omega) (by have := FB.le; omega) (fun W hW => ldv27 ((hW.cell (p := ⟨wA.heap.size, 0, none⟩) (show wA.heap.size < _ by omega)).trans qB)) (fun W hW => bytes_any a6 n6 c6 L W (HB.kept hW (Nat.le_refl _)) hg.2.1 n6b) (fun W hW => by rw [t1]; exact (FB.kept hW (Nat.le_refl _)).front t htq))
      clear RD BA FA CB HB FB qB zB H6 r1 r2 r4 t1 t2 t3 hg ht
      go_wp2_with fail
      refine R11.out _ _ _ _ _ _ _ _ _ _ _ _ _ _ _ _ _ _ _ _ _ _ _ _ _ _ _ _ _ _ _ _ _ _ _ _ _ _ _ _ _ _ _ _ _ _ _ _ _ _ _ _ _ _ _ _ _ _ _ _ _ _ _ _ _ _ _ _ _ _ _ _ _ _ _ _ _ _ _ _ _ _ _ _ _ _ _ _ _ _ _ _ _ _ (fun wC a9 n9 c9 BC => ?_)
      have bC := hide (bB.out.trans (BC.mono bB.out.size))
      clear R11 BC
      go_wp2_with fail
      go_ret
      exact ⟨rfl, bC.out⟩
    · have hmb : (m' != 0) = true := by rw [bne_iff_ne]; exact hm'
      have bA := hide (bB0.out.trans (BA.mono bB0.out.size))
      have CB : Below wA.heap.size wA (wA.alloc (.cells #[.slice none 0 0] 27)) := (Below.refl _ _).alloc (Nat.le_refl _) _
      have qB : (wA.alloc (.cells #[.slice none 0 0] 27)).cell? ⟨wA.heap.size, 0, none⟩ = some (.slice none 0 0) := by simp
      have zB : (wA.alloc (.cells #[.slice none 0 0] 27)).heap.size = wA.heap.size + 1 := by simp
      have bB := hide (bA.out.trans (CB.mono bA.out.size))
      have R11 := hide (reg3_11a (wA.alloc (.cells #[.slice none 0 0] 27)) wA.heap.size q1 c1 a1 m' hmb (fun W hW => ldv27 ((hW.cell (p := ⟨wA.heap.size, 0, none⟩) (show wA.heap.size < _ by omega)).trans qB)))
      unfold voidV
      clear RD BA CB qB zB hno hm'
      go_wp2_with fail
      refine R11.out _ _ _ _ _ _ _ _ _ _ _ _ _ _ _ _ _ _ _ _ _ _ _ _ _ _ _ _ _ _ _ _ _ _ _ _ _ _ _ _ _ _ _ _ _ _ _ _ _ _ _ _ _ _ _ _ _ _ _ _ _ _ _ _ _ _ _ _ _ _ _ _ _ _ _ _ _ _ _ _ _ _ _ _ _ _ _ _ _ _ _ _ _ _ (fun wC BC => ?_)
      have bC := hide (bB.out.trans (BC.mono bB.out.size))
      clear R11 BC
      go_wp2_with fail
      go_ret
      exact ⟨rfl, bC.out⟩
  · skip
    have MN := hide (make_no w3 _ n c l H3 (by omega) hk)
    unfold voidV at MN
    replace H3 := hide H3
    replace hk := hide hk
    go_wp2_with fail
    refine MN.out.mono ?_
    rintro e w4 ⟨rfl, B4⟩
    have b4 := hide (b3.out.trans (B4.mono b3.out.size))
    have C5 : Below w4.heap.size w4 (w4.alloc (.cells #[.slice none 0 0] 27)) := (Below.refl _ _).alloc (Nat.le_refl _) _
    have F1e := hide ((F1d.out.kept B4 (Nat.le_refl _)).kept C5 (Nat.le_refl _))
    have b5 := hide (b4.out.trans (C5.mono b4.out.size))
    clear MN B4 C5 F1d F2d
    have RD := hide (Read_any (w4.alloc (.cells #[.slice none 0 0] 27)) a1 q1 c1 bb 0 F1e.out (by omega) (Nat.zero_le _))
    have hbb := hide F1e.out.bytes
    have hbl := hide F1e.out.hlen
    go_wp2_with fail
    refine RD.out.mono ?_
    rintro e wA ⟨⟨n', k', P, m', L, v', r1, r2, r3, r4, rfl, ⟨a6, n6, c6, rfl, H6⟩⟩ | ⟨hno, m', hm', rfl⟩, BA⟩
    · rw [List.drop_zero] at r1
      rw [Nat.zero_add] at r2
      obtain ⟨t1, t2, t3⟩ := tab_forth hbb.out r1 r2 r4
      have hg := wths_good P [] L (by simp [Asc]) (by simp) r4
      obtain ⟨t, ht⟩ : ∃ t, k' + m' = t := ⟨_, rfl⟩
      rw [show 0 + k' + m' = t by omega]
      rw [ht] at t1 t2
      have bA := hide (b5.out.trans (BA.mono b5.out.size))
      have FA := F1e.out.kept BA (Nat.le_refl _)
      have CB : Below wA.heap.size wA (wA.alloc (.cells #[.slice (some a6) n6 c6] 27)) := (Below.refl _ _).alloc (Nat.le_refl _) _
      have qB : (wA.alloc (.cells #[.slice (some a6) n6 c6] 27)).cell? ⟨wA.heap.size, 0, none⟩ = some (.slice (some a6) n6 c6) := by simp
      have zB : (wA.alloc (.cells #[.slice (some a6) n6 c6] 27)).heap.size = wA.heap.size + 1 := by simp
      have HB := H6.kept CB (Nat.le_refl _)
      have FB := FA.kept CB (Nat.le_refl _)
      have n6b : n6 ≤ 4096 := by rw [← H6.hlen, t3]; exact r3
      obtain ⟨wB, hwB⟩ : ∃ wB, wA.alloc (.cells #[.slice (some a6) n6 c6] 27) = wB := ⟨_, rfl⟩
      rw [hwB] at CB qB zB HB FB
      have bB := hide (bA.out.trans (CB.mono bA.out.size))
      have htq : t ≤ q1 := by rw [← hbl.out]; exact t2
      have R11 := hide (reg3_11b wB wA.heap.size q1 c1 t a1 (.slice (some a6) n6 c6) (tabB L) (by omega) (by have := FB.le; omega) (fun W hW => ldv27 ((hW.cell (p := ⟨wA.heap.size, 0, none⟩) (show wA.heap.size < _ by omega)).trans qB)) (fun W hW => bytes_any a6 n6 c6 L W (HB.kept hW (Nat.le_refl _)) hg.2.1 n6b) (fun W hW => by rw [t1]; exact (FB.kept hW (Nat.le_refl _)).front t htq))
      clear RD BA FA CB HB FB qB zB H6 r1 r2 r4 t1 t2 t3 hg ht
      go_wp2_with fail
      refine R11.out _ _ _ _ _ _ _ _ _ _ _ _ _ _ _ _ _ _ _ _ _ _ _ _ _ _ _ _ _ _ _ _ _ _ _ _ _ _ _ _ _ _ _ _ _ _ _ _ _ _ _ _ _ _ _ _ _ _ _ _ _ _ _ _ _ _ _ _ _ _ _ _ _ _ _ _ _ _ _ _ _ _ _ _ _ _ _ _ _ _ _ _ _ _ (fun wC a9 n9 c9 BC => ?_)
      have bC := hide (bB.out.trans (BC.mono bB.out.size))
      clear R11 BC
      go_wp2_with fail
      go_ret
      exact ⟨rfl, bC.out⟩
    · have hmb : (m' != 0) = true := by rw [bne_iff_ne]; exact hm'
      have bA := hide (b5.out.trans (BA.mono b5.out.size))
      have CB : Below wA.heap.size wA (wA.alloc (.cells #[.slice none 0 0] 27)) := (Below.refl _ _).alloc (Nat.le_refl _) _
      have qB : (wA.alloc (.cells #[.slice none 0 0] 27)).cell? ⟨wA.heap.size, 0, none⟩ = some (.slice none 0 0) := by simp
      have zB : (wA.alloc (.cells #[.slice none 0 0] 27)).heap.size = wA.heap.size + 1 := by simp
      have bB := hide (bA.out.trans (CB.mono bA.out.size))
      have R11 := hide (reg3_11a (wA.alloc (.cells #[.slice none 0 0] 27)) wA.heap.size q1 c1 a1 m' hmb (fun W hW => ldv27 ((hW.cell (p := ⟨wA.heap.size, 0, none⟩) (show wA.heap.size < _ by omega)).trans qB)))
      unfold voidV
      clear RD BA CB qB zB hno hm'
      go_wp2_with fail
      refine R11.out _ _ _ _ _ _ _ _ _ _ _ _ _ _ _ _ _ _ _ _ _ _ _ _ _ _ _ _ _ _ _ _ _ _ _ _ _ _ _ _ _ _ _ _ _ _ _ _ _ _ _ _ _ _ _ _ _ _ _ _ _ _ _ _ _ _ _ _ _ _ _ _ _ _ _ _ _ _ _ _ _ _ _ _ _ _ _ _ _ _ _ _ _ _ (fun wC BC => ?_)
      have bC := hide (bB.out.trans (BC.mono bB.out.size))
      clear R11 BC
      go_wp2_with fail
      go_ret
      exact ⟨rfl, bC.out⟩
end Go.Proofs.Ytbinnpadmajgpaa
