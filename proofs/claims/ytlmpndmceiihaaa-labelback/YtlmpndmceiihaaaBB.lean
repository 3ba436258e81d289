/-
  label.Read, as a function of what is left.
-/
import Derived.Test.YtlmpndmceiihaaaBA
import Derived.Deep.Cut
namespace Go.Proofs.Ytlmpndmceiihaaa
open Go.RowKit
set_option linter.unusedVariables false
set_option linter.unusedSimpArgs false

theorem chk_len16 {L : List Lab} (h : chkB L = true) : 0 < L.length ∧ L.length ≤ 16 := by
  unfold chkB at h
  simp only [Bool.and_eq_true, decide_eq_true_eq] at h
  exact ⟨h.1.1.1, h.1.1.2⟩
theorem owns_below {w w' : World} {base : Nat} {e : TypeId} {size : Nat} {v : Value} {n : Nat} {xs : List Value} (h : w.ownsRow base e size v n xs) (hb : Below w.heap.size w w') : w'.ownsRow base e size v n xs := by
  refine ⟨h.1, ?_⟩
  rcases h.2 with h2 | ⟨g, cap, cur, e1, e2, e3, e4⟩
  · exact .inl h2
  · exact .inr ⟨g, cap, cur, e1, e2, (hb.block g (Array.getElem?_eq_some_iff.1 e3).1).trans e3, e4⟩
theorem take_snoc {X : List Lab} (x : Lab) (h : (X.take 17).length ≤ 16) : (X ++ [x]).take 17 = X.take 17 ++ [x] := by
  rw [List.length_take] at h
  rw [List.take_append, List.take_of_length_le (by omega : X.length ≤ 17), show [x].take (17 - X.length) = [x] from List.take_of_length_le (by simp; omega)]
theorem take_more {X : List Lab} (x : Lab) (h : ¬ (X.take 17).length ≤ 16) : (X ++ [x]).take 17 = X.take 17 := by
  rw [List.length_take] at h
  rw [List.take_append, show 17 - X.length = 0 by omega]
  simp
theorem chk_take {X : List Lab} (h : 16 < X.length) : chkB (X.take 17) = false := by
  have : ¬ chkB (X.take 17) = true := fun hc => by
    have := chk_len16 hc
    rw [List.length_take] at this; omega
  simpa using this
/-- How Read ends. -/
def ReadS (l : List Int) (t : Nat) (e : Ending) (w' : World) : Prop :=
  (∃ n k X m, V.rn (l.drop t) = some (n, k) ∧ V.rls n (l.drop (t + k)) = some (X, m) ∧ chkB X = true ∧ ∃ a' c', e = .returned (.tuple #[.slice a' X.length c', .int .i64 ((t + k + m : Nat) : Int), .int .i64 0]) ∧ HasB w' a' X.length c' X) ∨
  ((∀ n k X m, V.rn (l.drop t) = some (n, k) → V.rls n (l.drop (t + k)) = some (X, m) → chkB X = false) ∧ ∃ m : Int, m ≠ 0 ∧ e = .returned (.tuple #[.slice none 0 0, .int .i64 0, .int .i64 m]))
set_option maxRecDepth 100000 in
set_option maxHeartbeats 4000000 in
theorem Read_any (w : World) (a : Option Addr) (len cap : Nat) (l : List Int) (t : Nat) (h : V.Has w a len cap l) (hb : len ≤ 1099511627776) (ht : t ≤ len) :
    Calls Try.prog 7 #[.slice a len cap, .int .i64 t] w fun e w' => ReadS l t e w' ∧ Below w.heap.size w w' := by
  have hbt : Hid (∀ x ∈ l, 0 ≤ x ∧ x ≤ 255) := h.bytes
  have hll : Hid (l.length = len) := h.hlen
  have r1 := hide (V.Read_rn w a len cap l t h hb ht)
  replace h := hide h
  go_enter Try.func7, Try.ntmps7
  go_wp2_with fail
  refine r1.out.mono ?_
  rintro e W1 ⟨⟨n, k, hn, rfl⟩ | ⟨hn, m, hm, rfl⟩, B1⟩
  · obtain ⟨e1, e2, e3, e4⟩ := V.enc_rn (fun y hy => hbt.out y (List.mem_of_mem_drop hy)) hn
    rw [List.length_drop, hll.out] at e2
    obtain ⟨q, hq⟩ : ∃ q, t + k = q := ⟨_, rfl⟩
    rw [hq]
    have hql : q ≤ len := by omega
    have n4 : (n : Int) < 18446744073709551616 := by omega
    have hn' := hide hn
    replace hq := hide hq
    replace B1 := hide B1
    clear e1 e2 e3 r1 hn
    go_wp2_with fail
    go_loopw [8, 10, 23] (fun pp vv ii wr => ∃ (i p : Nat) (X : List Lab) (ao : Option Addr) (co j : Nat), i ≤ n ∧ pp = .int .i64 (p : Int) ∧ p ≤ len ∧ q ≤ p ∧ ii = .int .u64 (i : Int) ∧ vv = .slice ao j co ∧ j ≤ 17 ∧ Hid ((X.take 17).length = j) ∧ Hid (V.rls i (l.drop q) = some (X, p - q)) ∧ Hid (wr.ownsRow w.heap.size 38 2 (.slice ao j co) j (flat (X.take 17))) ∧ Hid (Below w.heap.size w wr)) (fun _ _ ii _ => n - (intOf ii).toNat)
    case atStart => exact ⟨0, q, [], none, 0, 0, Nat.zero_le _, rfl, hql, Nat.le_refl _, rfl, rfl, by omega, rfl, (by show V.rls 0 _ = _; rw [Nat.sub_self]; rfl), (World.ownsRow_nil _ _ 38 2 : _), B1.out⟩
    case round =>
      obtain ⟨i, p, X, ao, co, j, hi, rfl, hp, hqp, rfl, rfl, hj17, hj, hX, hO, hB⟩ := hrel
      by_cases hin : i < n
      · have i1 : (i : Int) < (n : Int) := by omega
        have N0 : Hid (Below wr.heap.size wr (wr.alloc (.cells #[.string ByteArray.empty, .string ByteArray.empty] 38))) := (Below.refl _ wr).alloc (Nat.le_refl _) _
        have H0 := hide (h.out.kept (hB.out.trans (N0.out.mono hB.out.size)) (Nat.le_refl _))
        have X0 := hide (Box2.new wr ByteArray.empty ByteArray.empty 38)
        have r2 := hide (readLabel_rl _ a len cap l p H0.out hb hp)
        go_wp2_with fail
        refine r2.out.mono ?_
        rintro e W2 ⟨⟨⟨x0, x1⟩, k2, hx, hk2, rfl⟩ | ⟨hx, m, hm, rfl⟩, B2⟩
        · have N2 := hide (N0.out.trans (B2.mono N0.out.size))
          have X2 := X0.out.kept B2 X0.out.2.2.2
          have X3 := hide (X2.set x0 x1)
          have p5 := X2.other
          obtain ⟨⟨p0, p1⟩, p2, p3, p4⟩ := X2
          obtain ⟨⟨o0, o1⟩, -, -, -⟩ := X3.out
          have N3 := hide ((N2.out.setCell (p := ⟨wr.heap.size, 0, none⟩) (Nat.le_refl _) (.string x0)).setCell (p := ⟨wr.heap.size, 1, none⟩) (Nat.le_refl _) (.string x1))
          have O3 := hide (owns_below hO.out N3.out)
          have b3 := hide (hB.out.trans (N3.out.mono hB.out.size))
          obtain ⟨p', hp'⟩ : ∃ p', p + k2 = p' := ⟨_, rfl⟩
          rw [hp'] at hk2 ⊢
          have hX' : Hid (V.rls (i + 1) (l.drop q) = some (X ++ [(x0, x1)], p' - q)) := by
            have := V.rls_snoc i (l.drop q) X (p - q) (x0, x1) k2 hX.out (by rw [List.drop_drop, show q + (p - q) = p by omega]; exact hx)
            rw [show p - q + k2 = p' - q by omega] at this
            exact this
          have hqp' : q ≤ p' := by omega
          replace hp' := hide hp'
          replace hx := hide hx
          clear r2 B2 N2 N0 X0 H0 hO hX
          by_cases h17 : j ≤ 16
          · have j1 : (j : Int) ≤ 16 := by omega
            have hts := hide (take_snoc (x0, x1) (by rw [hj.out]; exact h17))
            have c2 := hide (cells2 ((W2.setCell ⟨wr.heap.size, 0, none⟩ (.string x0)).setCell ⟨wr.heap.size, 1, none⟩ (.string x1)) (.string x0) (.string x1) 38)
            simp only [World.size_setCell] at c2
            have hZ := hide ((b3.out.alloc b3.out.size (.cells #[.string x0, .string x1] 38)).size)
            go_upto_if 37 with fail
            refine wp_cond_true rfl ?_
            go_wp2_with (first
              | (refine wpList_appB rfl (.tmp 38) (.tmp 40) rfl w.heap.size _ j (X.take 17) rfl (O3.out.alloc _) W2.heap.size 1 (x0, x1) rfl c2.out.1 c2.out.2 (by omega) hZ.out ?_
                 intro v8 W8 O8 G8
                 have B8 := hide ((b3.out.alloc b3.out.size _).grown G8 hZ.out (fun q e => (O3.out.lt q e).1))
                 obtain ⟨a8, c8, e8⟩ := slice_of_owns O8
                 subst e8
                 rw [← hts.out] at O8
                 replace O8 := hide O8
                 clear G8))
            go_roundw
            case rel => exact ⟨i + 1, p', X ++ [(x0, x1)], a8, c8, j + 1, hin, rfl, hk2, hqp', by go_num, rfl, by omega, (by show _ = _; rw [hts.out, List.length_append, hj.out]; rfl), hX', O8, B8⟩
            case measure => simp [intOf]; omega
          · have j1 : ¬ (j : Int) ≤ 16 := by omega
            have hts := hide (take_more (X := X) (x0, x1) (by rw [hj.out]; exact h17))
            go_upto_if 37 with fail
            refine wp_cond_false (congrArg Value.bool (decide_eq_false (by omega))) ?_
            go_wp2_with fail
            go_roundw
            case rel => exact ⟨i + 1, p', X ++ [(x0, x1)], ao, co, j, hin, rfl, hk2, hqp', by go_num, rfl, hj17, (by show _ = _; rw [hts.out]; exact hj.out), hX', (by show World.ownsRow _ _ _ _ _ _ _; rw [hts.out]; exact O3.out), b3⟩
            case measure => simp [intOf]; omega
        · have N2 := hide (N0.out.trans (B2.mono N0.out.size))
          have X2 := X0.out.kept B2 X0.out.2.2.2
          have p5 := X2.other
          obtain ⟨⟨p0, p1⟩, p2, p3, p4⟩ := X2
          have hm' : (m != 0) = true := by rw [bne_iff_ne]; exact hm
          have b3 := hide (hB.out.trans ((((N2.out.setCell (p := ⟨wr.heap.size, 0, none⟩) (Nat.le_refl _) (.string ByteArray.empty)).setCell (p := ⟨wr.heap.size, 1, none⟩) (Nat.le_refl _) (.string ByteArray.empty))).mono hB.out.size))
          have hst := hide (V.rls_stop i (l.drop q) X (p - q) n hX.out (by rw [List.drop_drop, show q + (p - q) = p by omega]; exact hx) hin)
          clear r2 B2 N2 N0 X0 H0 hO hX
          go_wp2_with fail
          go_ret3
          have hno : ∀ n' k' X' m', V.rn (l.drop t) = some (n', k') → V.rls n' (l.drop (t + k')) = some (X', m') → chkB X' = false := by
            intro n' k' X' m' h1 h2
            rw [hn'.out] at h1
            cases h1
            rw [hq.out, hst.out] at h2
            cases h2
          exact ⟨.inr ⟨hno, m, hm, rfl⟩, b3.out⟩
      · obtain rfl : i = n := by omega
        have i1 : ¬ (i : Int) < (i : Int) := by omega
        obtain ⟨a5, c5, e5, H5⟩ := hasB_of_owns hO.out
        cases e5
        have rc := check_any wr _ j _ (X.take 17) H5
        replace H5 := hide H5
        by_cases hc : chkB (X.take 17) = true
        · have hXt : X.take 17 = X := by
            have := (chk_len16 hc).2
            rw [List.length_take] at this
            exact List.take_of_length_le (by omega)
          rw [errB_yes hc] at rc
          replace rc := hide rc
          rw [hXt] at hc
          have hjX : Hid (X.length = j) := by show _ = _; rw [← hXt]; exact hj.out
          replace hXt := hide hXt
          replace hc := hide hc
          go_wp2_with fail
          refine rc.out.mono ?_
          rintro e W3 ⟨rfl, B3⟩
          have H6 := hide (H5.out.kept B3 (Nat.le_refl _))
          have b3 := hide (hB.out.trans (B3.mono hB.out.size))
          clear rc B3
          go_wp2_with fail
          go_ret3
          refine ⟨.inl ⟨i, k, X, p - q, hn'.out, by rw [hq.out]; exact hX.out, hc.out, ao, co, ?_, ?_⟩, b3.out⟩
          · rw [hjX.out, show ((t + k + (p - q) : Nat) : Int) = (p : Int) by have := hq.out; omega]
            rfl
          · have := H6.out
            rw [hXt.out] at this
            rw [hjX.out]
            exact this
        · replace hc : chkB (X.take 17) = false := by simpa using hc
          have hcX : Hid (chkB X = false) := by
            show _ = _
            by_cases h16 : 16 < X.length
            · have : ¬ chkB X = true := fun h => by have := (chk_len16 h).2; omega
              simpa using this
            · rwa [List.take_of_length_le (by omega)] at hc
          rw [errB_no hc] at rc
          replace rc := hide rc
          replace hc := hide hc
          go_wp2_with fail
          refine rc.out.mono ?_
          rintro e W3 ⟨rfl, B3⟩
          have b3 := hide (hB.out.trans (B3.mono hB.out.size))
          clear rc B3
          go_wp2_with fail
          go_ret3
          have hno : ∀ n' k' X' m', V.rn (l.drop t) = some (n', k') → V.rls n' (l.drop (t + k')) = some (X', m') → chkB X' = false := by
            intro n' k' X' m' h1 h2
            rw [hn'.out] at h1
            cases h1
            rw [hq.out, hX.out] at h2
            cases h2
            exact hcX.out
          exact ⟨.inr ⟨hno, 40, by decide, rfl⟩, b3.out⟩
  · have hm' : (m != 0) = true := by rw [bne_iff_ne]; exact hm
    go_wp2_with fail
    go_ret3
    exact ⟨.inr ⟨(fun n k X m' h1 => by rw [hn] at h1; cases h1), m, hm, rfl⟩, B1⟩
end Go.Proofs.Ytlmpndmceiihaaa
