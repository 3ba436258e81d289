/-
  Read, as a function of what is left.
-/
import Derived.Test.YtbinnpadmajgpaaM
import Derived.Deep.Cut
namespace Go.Proofs.Ytbinnpadmajgpaa
open Go.RowKit Go.Shelf
set_option linter.unusedVariables false
set_option linter.unusedSimpArgs false
set_option maxRecDepth 100000

theorem owns_below {w w' : World} {base : Nat} {e : TypeId} {size : Nat} {v : Value} {n : Nat} {xs : List Value} (h : w.ownsRow base e size v n xs) (hb : Below w.heap.size w w') : w'.ownsRow base e size v n xs := ownsRow_keep h hb
theorem zero27 : ∀ w, (zeroValue 27).run Try.prog w = .ok (.agg #[.slice none 0 0]) w := fun w => by kernel_rfl
/-- How Read ends. -/
def ReadS (l : List Int) (t : Nat) (e : Ending) (w' : World) : Prop :=
  (∃ n k P m L v, V.rn (l.drop t) = some (n, k) ∧ rps n (l.drop (t + k)) = some (P, m) ∧ n ≤ 4096 ∧ wths [] P = some L ∧ e = .returned (.tuple #[v, .int .i64 ((t + k + m : Nat) : Int), .int .i64 0]) ∧ TabV w' v L) ∨
  ((∀ n k P m, V.rn (l.drop t) = some (n, k) → rps n (l.drop (t + k)) = some (P, m) → n ≤ 4096 → wths [] P = none) ∧ ∃ m : Int, m ≠ 0 ∧ e = .returned (.tuple #[voidV, .int .i64 0, .int .i64 m]))
theorem empty_row (w : World) : (w.alloc (.cells #[] 9)).ownsRow w.heap.size 9 1 (.slice (some ⟨w.heap.size, 0, none⟩) 0 0) 0 (([] : List Tx).map encStr) := by
  simpa using World.ownsRow_made (e := 9) (size := 1) w #[] 0 (Nat.le_refl _) (Nat.zero_le _) (by simp)
theorem lastT_le' (L : List Tx) (h : ∀ s ∈ L, s.length ≤ 256) : (lastT [] L).length ≤ 256 := by
  rcases Nat.eq_zero_or_pos L.length with h0 | h0
  · obtain rfl : L = [] := List.eq_nil_of_length_eq_zero h0
    simp [lastT]
  · exact h _ (lastT_mem L [] h0)
theorem HasS.far {w : World} {g g0 n c : Nat} {l : List Tx} (h : HasS w (some ⟨g, 0, none⟩) n c l) (hne : g0 ≠ g) (v : Value) : HasS (w.setCell ⟨g0, 0, none⟩ v) (some ⟨g, 0, none⟩) n c l :=
  ⟨h.hlen, h.le, h.capb, h.form, fun i hi => by
    obtain ⟨b, off, e1, e2, e3⟩ := h.cells i hi
    cases e1
    exact ⟨_, _, rfl, by simpa [World.setCell] using e2, by rw [World.cell?_setCell_far _ _ _ _ hne]; exact e3⟩⟩
/-- How far the list has come behind the parts X. -/
def LiS (n base : Nat) (X : List Pa) (vv ff : Value) (wr : World) : Prop :=
  (n ≤ 4096 ∧ ∃ L, wths [] X = some L ∧ ff = .bool true ∧ ∃ g c, vv = .slice (some ⟨g, 0, none⟩) L.length c ∧ wr.ownsRow base 9 1 (.slice (some ⟨g, 0, none⟩) L.length c) L.length (L.map encStr)) ∨
  ((4096 < n ∨ wths [] X = none) ∧ ff = .bool false ∧ ∃ a' n' c', vv = .slice a' n' c')
theorem wths_none {X : List Pa} {p : Pa} (h : wths [] X = none) : wths [] (X ++ [p]) = none := by rw [wths_snoc, h]; rfl
theorem wths_some {X : List Pa} {L : List Tx} {p : Pa} (h : wths [] X = some L) : wths [] (X ++ [p]) = wth L p := by rw [wths_snoc, h]; rfl
theorem Has_kept {w w' : World} {a : Option Addr} {len cap B : Nat} {l : List Int} (h : V.Has w a len cap l) (hb : Below B w w') (hB : w.heap.size ≤ B) : V.Has w' a len cap l := h.kept hb hB
set_option maxHeartbeats 4000000 in
theorem Read_any (w : World) (a : Option Addr) (len cap : Nat) (l : List Int) (t : Nat) (h : V.Has w a len cap l) (hb : len ≤ 1000000) (ht : t ≤ len) :
    Calls Try.prog 10 #[.slice a len cap, .int .i64 t] w fun e w' => ReadS l t e w' ∧ Below w.heap.size w w' := by
  have hbt : Hid (∀ x ∈ l, 0 ≤ x ∧ x ≤ 255) := h.bytes
  have hll : Hid (l.length = len) := h.hlen
  have B0 : Below w.heap.size w (w.alloc (.cells #[.slice none 0 0] 27)) := (Below.refl _ w).alloc (Nat.le_refl _) _
  have b0 : (w.alloc (.cells #[.slice none 0 0] 27)).cell? ⟨w.heap.size, 0, none⟩ = some (.slice none 0 0) := by simp
  have f0 : (w.alloc (.cells #[.slice none 0 0] 27)).frozen? ⟨w.heap.size, 0, none⟩ = false := by simp
  have z0 : (w.alloc (.cells #[.slice none 0 0] 27)).heap.size = w.heap.size + 1 := by simp
  obtain ⟨W0, hW0⟩ : ∃ W0, w.alloc (.cells #[.slice none 0 0] 27) = W0 := ⟨_, rfl⟩
  rw [hW0] at B0 b0 f0 z0
  have r1 := hide (V.Read_rn W0 a len cap l t (h.kept B0 (Nat.le_refl _)) (by omega) ht)
  have z27 := zero27
  replace h := hide h
  replace hW0 := hide hW0
  replace B0 := hide B0
  replace z0 := hide z0
  go_enter Try.func10, Try.ntmps10
  go_wp2_with fail
  rw [hW0.out]
  refine r1.out.mono ?_
  rintro e W1 ⟨⟨n, k, hn, rfl⟩ | ⟨hn, m, hm, rfl⟩, B1⟩
  · obtain ⟨e1, e2, e3, e4⟩ := V.enc_rn (fun y hy => hbt.out y (List.mem_of_mem_drop hy)) hn
    rw [List.length_drop, hll.out] at e2
    obtain ⟨q, hq⟩ : ∃ q, t + k = q := ⟨_, rfl⟩
    rw [hq]
    have hql : q ≤ len := by omega
    have n4 : (n : Int) < 18446744073709551616 := by omega
    have hn' := hide hn
    have b1 := hide ((B1.cell (p := ⟨w.heap.size, 0, none⟩) (show w.heap.size < _ by have := z0.out; omega)).trans b0)
    have f1 := hide ((B1.frozen (p := ⟨w.heap.size, 0, none⟩) (show w.heap.size < _ by have := z0.out; omega)).trans f0)
    have z1 := hide (show w.heap.size + 1 ≤ W1.heap.size by have := B1.size; have := z0.out; omega)
    have B1' := hide (B0.out.trans (B1.mono B0.out.size))
    have hW1 := hide ((h.out.kept B0.out (Nat.le_refl _)).kept B1 (Nat.le_refl _))
    have ER := hide (empty_row W1)
    have BE : Hid (Below W1.heap.size W1 (W1.alloc (.cells #[] 9))) := (Below.refl _ _).alloc (Nat.le_refl _) _
    replace hq := hide hq
    clear e1 e2 e3 r1 hn b0 f0 B1
    go_wp2_with fail
    go_loopw [8, 10, 11, 28] (fun pp vv ff ii wr => ∃ (i p : Nat) (X : List Pa), i ≤ n ∧ pp = .int .i64 (p : Int) ∧ p ≤ len ∧ q ≤ p ∧ ii = .int .u64 (i : Int) ∧ Hid (rps i (l.drop q) = some (X, p - q)) ∧ Hid (LiS n W1.heap.size X vv ff wr) ∧ Hid (wr.cell? ⟨w.heap.size, 0, none⟩ = some (.slice none 0 0)) ∧ Hid (wr.frozen? ⟨w.heap.size, 0, none⟩ = false) ∧ Hid (Below W1.heap.size W1 wr)) (fun _ _ _ ii _ => n - (intOf ii).toNat)
    case atStart =>
      refine ⟨0, q, [], Nat.zero_le _, rfl, hql, Nat.le_refl _, rfl, (by show rps 0 _ = _; rw [Nat.sub_self]; rfl), ?_, (BE.out.cell (p := ⟨w.heap.size, 0, none⟩) (show w.heap.size < _ by have := z1.out; omega)).trans b1.out, (BE.out.frozen (p := ⟨w.heap.size, 0, none⟩) (show w.heap.size < _ by have := z1.out; omega)).trans f1.out, BE.out⟩
      show LiS _ _ _ _ _ _
      by_cases h4 : n ≤ 4096
      · exact .inl ⟨h4, [], rfl, by simp; omega, _, _, rfl, ER.out⟩
      · exact .inr ⟨.inl (by omega), by simp; omega, _, _, _, rfl⟩
    case round =>
      obtain ⟨i, p, X, hi, rfl, hp, hqp, rfl, hX, hS, hbc, hbf, hB⟩ := hrel
      have hPF := hide (parts_forth i (l.drop q) (fun y hy => hbt.out y (List.mem_of_mem_drop hy)) X _ hX.out)
      have hi2 : i ≤ 1000000 := by have := hPF.out.2.1; have := hPF.out.1; rw [List.length_drop, hll.out] at this; omega
      by_cases hin : i < n
      · have i1 : (i : Int) < (n : Int) := by omega
        have i2 : (i : Int) ≤ 1000000 := by omega
        have N0 : Hid (Below wr.heap.size wr (wr.alloc (.cells #[.int .u64 0, .slice none 0 0] 55))) := (Below.refl _ wr).alloc (Nat.le_refl _) _
        have H0 := hide (hW1.out.kept (hB.out.trans (N0.out.mono hB.out.size)) (Nat.le_refl _))
        have X0 := hide (BoxP.new wr 0 (.slice none 0 0))
        have r2 := hide (readPart_rp _ a len cap l p H0.out (by omega) hp)
        go_wp2_with fail
        refine r2.out.mono ?_
        rintro e W2 ⟨⟨x, k2, hx, hk2, a2, m2, c2, rfl, H2⟩ | ⟨hx, m, hm, rfl⟩, B2⟩
        · have N2 := hide (N0.out.trans (B2.mono N0.out.size))
          have X2 := X0.out.kept B2 X0.out.2.2.2
          have ap := hide (H2.apart (g := wr.heap.size) (cs := #[.int .u64 0, .slice none 0 0]) ((B2.block _ X0.out.2.2.2).trans (heap_alloc_new wr _)) (by
            intro i x
            rcases i with _ | _ | i <;> simp))
          have X3 := hide (X2.set x.1 (.slice a2 m2 c2))
          have p5 := X2.other
          obtain ⟨⟨p0, p1⟩, p2, p3, p4⟩ := X2
          have H3 := hide ((H2.far2 (ap.out) 0 (.int .u64 x.1)).far2 (ap.out) 1 (.slice a2 m2 c2))
          have N3 := hide ((N2.out.setCell (p := ⟨wr.heap.size, 0, none⟩) (Nat.le_refl _) (.int .u64 x.1)).setCell (p := ⟨wr.heap.size, 1, none⟩) (Nat.le_refl _) (.slice a2 m2 c2))
          have hbx := rp_bytes (fun y hy => hbt.out y (List.mem_of_mem_drop hy)) hx
          have hm2 := H2.hlen
          have zz := hide hB.out.size
          obtain ⟨p', hp'⟩ : ∃ p', p + k2 = p' := ⟨_, rfl⟩
          have hX' : Hid (rps (i + 1) (l.drop q) = some (X ++ [x], p' - q)) := by
            have := rps_snoc i (l.drop q) X (p - q) x k2 hX.out (by rw [List.drop_drop, show q + (p - q) = p by omega]; exact hx)
            rw [show p - q + k2 = p' - q by omega] at this
            exact this
          rw [hp'] at hk2 ⊢
          have hqp' : q ≤ p' := by omega
          have hx64 : (x.1 : Int) < 18446744073709551616 := by have := hbx.2.2.2.1; omega
          replace hp' := hide hp'
          replace hx := hide hx
          rcases hS.out with ⟨h4, L, hL, rfl, g, c, rfl, hO⟩ | ⟨hno, rfl, a', n', c', rfl⟩
          · have hg := wths_good X [] L (by simp [Asc]) (by simp) hL
            have hLl : L.length = i := by rw [hg.2.2, hPF.out.2.2.1]; simp
            have WI := hide (with_any _ W1.heap.size _ L.length L rfl (ownsRow_keep hO N3.out) (by have := N3.out.size; have := zz.out; omega) (by omega) (lastT_le' L hg.2.1) x.1 hbx.2.2.2.1 a2 m2 c2 x.2 H3.out (by have := hbx.2.2.2.2.1; omega))
            obtain ⟨⟨o0, o1⟩, -, -, -⟩ := X3.out
            have bc3 := hide ((N3.out.cell (p := ⟨w.heap.size, 0, none⟩) (show w.heap.size < _ by have := z1.out; have := zz.out; omega)).trans hbc.out)
            have bf3 := hide ((N3.out.frozen (p := ⟨w.heap.size, 0, none⟩) (show w.heap.size < _ by have := z1.out; have := zz.out; omega)).trans hbf.out)
            have b3 := hide (hB.out.trans (N3.out.mono hB.out.size))
            replace hg := hide hg
            replace hL := hide hL
            replace hLl := hide hLl
            replace hbx := hide hbx
            clear hO hS r2 B2 N0 N2 X0 H0 H2 hm2 N3
            go_wp2_with fail
            refine WI.out.mono ?_
            rintro e W4 ⟨⟨M, g', c4, hw, rfl, O4⟩ | ⟨hw, rfl⟩, B4⟩
            · have bc4 := (B4.cell (p := ⟨w.heap.size, 0, none⟩) (show w.heap.size < _ by have := z1.out; omega)).trans bc3.out
              have bf4 := (B4.frozen (p := ⟨w.heap.size, 0, none⟩) (show w.heap.size < _ by have := z1.out; omega)).trans bf3.out
              have hML : M.length = L.length + 1 := by have := O4.1; simpa using this
              have hw' := hide ((wths_some (p := x) hL.out).trans hw)
              have b4 := hide (b3.out.trans B4)
              replace bc4 := hide bc4
              replace bf4 := hide bf4
              replace O4 := hide O4
              replace hML := hide hML
              clear B4 hw WI
              go_wp2_with fail
              go_roundw
              case rel => exact ⟨i + 1, p', X ++ [x], hin, rfl, hk2, hqp', by go_num, hX', .inl ⟨h4, M, hw'.out, rfl, g', c4, by rw [hML.out], by rw [hML.out]; exact O4.out⟩, bc4, bf4, b4⟩
              case measure => simp [intOf]; omega
            · have bc4 := (B4.cell (p := ⟨w.heap.size, 0, none⟩) (show w.heap.size < _ by have := z1.out; omega)).trans bc3.out
              have bf4 := (B4.frozen (p := ⟨w.heap.size, 0, none⟩) (show w.heap.size < _ by have := z1.out; omega)).trans bf3.out
              have hw' := hide ((wths_some (p := x) hL.out).trans hw)
              have b4 := hide (b3.out.trans B4)
              replace bc4 := hide bc4
              replace bf4 := hide bf4
              clear B4 hw WI
              go_wp2_with fail
              go_roundw
              case rel => exact ⟨i + 1, p', X ++ [x], hin, rfl, hk2, hqp', by go_num, hX', .inr ⟨.inr hw'.out, rfl, _, _, _, rfl⟩, bc4, bf4, b4⟩
              case measure => simp [intOf]; omega
          · obtain ⟨⟨o0, o1⟩, -, -, -⟩ := X3.out
            have bc3 := hide ((N3.out.cell (p := ⟨w.heap.size, 0, none⟩) (show w.heap.size < _ by have := z1.out; have := zz.out; omega)).trans hbc.out)
            have bf3 := hide ((N3.out.frozen (p := ⟨w.heap.size, 0, none⟩) (show w.heap.size < _ by have := z1.out; have := zz.out; omega)).trans hbf.out)
            have b3 := hide (hB.out.trans (N3.out.mono hB.out.size))
            have hno' : Hid (4096 < n ∨ wths [] (X ++ [x]) = none) := by
              rcases hno with h | h
              · exact .inl h
              · exact .inr (wths_none h)
            replace hbx := hide hbx
            clear hno hS r2 B2 N0 N2 X0 H0 H2 hm2 N3
            go_wp2_with fail
            go_roundw
            case rel => exact ⟨i + 1, p', X ++ [x], hin, rfl, hk2, hqp', by go_num, hX', .inr ⟨hno'.out, rfl, _, _, _, rfl⟩, bc3, bf3, b3⟩
            case measure => simp [intOf]; omega
        · have N2 := hide (N0.out.trans (B2.mono N0.out.size))
          have X2 := X0.out.kept B2 X0.out.2.2.2
          have p5 := X2.other
          obtain ⟨⟨p0, p1⟩, p2, p3, p4⟩ := X2
          have hm' : (m != 0) = true := by rw [bne_iff_ne]; exact hm
          have N3 := hide ((N2.out.setCell (p := ⟨wr.heap.size, 0, none⟩) (Nat.le_refl _) (.int .u64 0)).setCell (p := ⟨wr.heap.size, 1, none⟩) (Nat.le_refl _) (.slice none 0 0))
          have zz := hide hB.out.size
          have bc3 := (N3.out.cell (p := ⟨w.heap.size, 0, none⟩) (show w.heap.size < _ by have := z1.out; have := zz.out; omega)).trans hbc.out
          have bf3 := (N3.out.frozen (p := ⟨w.heap.size, 0, none⟩) (show w.heap.size < _ by have := z1.out; have := zz.out; omega)).trans hbf.out
          have b3 := hide (B1'.out.trans ((hB.out.trans (N3.out.mono hB.out.size)).mono B1'.out.size))
          have hst := hide (rps_stop i (l.drop q) X (p - q) n hX.out (by rw [List.drop_drop, show q + (p - q) = p by omega]; exact hx) hin)
          have o0 := World.cell?_setCell_same' _ ⟨w.heap.size, 0, none⟩ (.slice none 0 0) (by rw [bc3]; rfl)
          clear r2 B2 N2 N0 X0 H0 hX hS hbc hbf N3
          go_wp2_with fail
          refine bodyPost_ret (v := .tuple #[voidV, .int .i64 0, .int .i64 m]) (by simp [results, Try.f10, go_sem, o0, voidV]) rfl ?_
          have hno : ∀ n' k' P' m', V.rn (l.drop t) = some (n', k') → rps n' (l.drop (t + k')) = some (P', m') → n' ≤ 4096 → wths [] P' = none := by
            intro n' k' X' m' h1 h2
            rw [hn'.out] at h1
            cases h1
            rw [hq.out, hst.out] at h2
            cases h2
          exact ⟨.inr ⟨hno, m, hm, rfl⟩, b3.out.setCell (Nat.le_refl _) _⟩
      · obtain rfl : i = n := by omega
        have i1 : ¬ (i : Int) < (i : Int) := by omega
        have bc3 := hbc.out
        have bf3 := hbf.out
        have b3 := hide (B1'.out.trans (hB.out.mono B1'.out.size))
        rcases hS.out with ⟨h4, L, hL, rfl, g, c, rfl, hO⟩ | ⟨hno, rfl, a', n', c', rfl⟩
        · have o0 := World.cell?_setCell_same' wr ⟨w.heap.size, 0, none⟩ (.slice (some ⟨g, 0, none⟩) L.length c) (by rw [bc3]; rfl)
          obtain ⟨a5, c5, e5, H5⟩ := hasS_of_owns hO
          cases e5
          have hgl : w.heap.size ≠ g := by
            have := (hO.lt g rfl).1; have := z1.out; omega
          have H6 := hide (HasS.far H5 hgl (.slice (some ⟨g, 0, none⟩) L.length c))
          replace hL := hide hL
          clear hS hO H5
          go_wp2_with fail
          refine bodyPost_ret (v := .tuple #[.agg #[.slice (some ⟨g, 0, none⟩) L.length c], .int .i64 (p : Int), .int .i64 0]) (by simp [results, Try.f10, go_sem, o0]) rfl ?_
          refine ⟨.inl ⟨i, k, X, p - q, L, _, hn'.out, by rw [hq.out]; exact hX.out, h4, hL.out, ?_, _, _, _, rfl, H6.out⟩, b3.out.setCell (Nat.le_refl _) _⟩
          rw [show ((t + k + (p - q) : Nat) : Int) = (p : Int) by have := hq.out; omega]
        · have o0 := World.cell?_setCell_same' wr ⟨w.heap.size, 0, none⟩ (.slice none 0 0) (by rw [bc3]; rfl)
          replace hno := hide hno
          clear hS
          go_wp2_with fail
          refine bodyPost_ret (v := .tuple #[voidV, .int .i64 0, .int .i64 150]) (by simp [results, Try.f10, go_sem, o0, voidV]) rfl ?_
          refine ⟨.inr ⟨?_, 150, by decide, rfl⟩, b3.out.setCell (Nat.le_refl _) _⟩
          intro n' k' X' m' h1 h2 h3
          rw [hn'.out] at h1
          cases h1
          rw [hq.out, hX.out] at h2
          cases h2
          rcases hno.out with h | h
          · omega
          · exact h
  · have hm' : (m != 0) = true := by rw [bne_iff_ne]; exact hm
    have b1 := ((B1.cell (p := ⟨w.heap.size, 0, none⟩) (show w.heap.size < _ by have := z0.out; omega)).trans b0)
    have f1 := ((B1.frozen (p := ⟨w.heap.size, 0, none⟩) (show w.heap.size < _ by have := z0.out; omega)).trans f0)
    have o0 : (W1.setCell ⟨w.heap.size, 0, none⟩ (.slice none 0 0)).cell? ⟨w.heap.size, 0, none⟩ = some (.slice none 0 0) := World.cell?_setCell_same' _ _ _ (by rw [b1]; rfl)
    have B1' := hide (B0.out.trans (B1.mono B0.out.size))
    clear r1 b0 f0 B1
    go_wp2_with fail
    refine bodyPost_ret (v := .tuple #[voidV, .int .i64 0, .int .i64 m]) (by simp [results, Try.f10, go_sem, o0, voidV]) rfl ?_
    exact ⟨.inr ⟨(fun n k P m' h1 => by rw [hn] at h1; cases h1), m, hm, rfl⟩, B1'.out.setCell (Nat.le_refl _) _⟩
end Go.Proofs.Ytbinnpadmajgpaa
