/-
  strings.Clone, own, Make.
-/
import Derived.Test.YtbinnpadmajgpaaE
import Derived.Laws.OwnMore
import Derived.Laws.ResultCell
import Derived.Deep.RegionHeld
namespace Go.Proofs.Ytbinnpadmajgpaa
open Go.RowKit Go.Shelf Go.Sort
set_option linter.unusedVariables false
set_option linter.unusedSimpArgs false
set_option maxRecDepth 100000

set_option maxHeartbeats 400000 in
theorem cloneS_any (s : Tx) (w : World) (h : s.length ≤ 1000000) : Calls Try.prog 34 #[encStr s] w fun e w' => e = .returned (encStr s) ∧ Below w.heap.size w w' := by
  have H := hide (AnyPu.stringslite_Clone Try.laysCL ⟨s.toArray⟩ w (by rw [str_size]; omega))
  change Hid (Calls Try.prog 47 _ _ _) at H
  go_enter Try.func34, Try.ntmps34
  go_wp2_with fail
  refine H.out.mono ?_
  rintro e w1 ⟨rfl, B⟩
  replace B := hide B
  go_wp2_with fail
  go_ret
  exact ⟨rfl, B.out⟩
theorem ownsRow_keep {w w' : World} {base : Nat} {e : TypeId} {size : Nat} {v : Value} {n : Nat} {xs : List Value} (h : w.ownsRow base e size v n xs) (hb : Below w.heap.size w w') : w'.ownsRow base e size v n xs := by
  refine ⟨h.1, ?_⟩
  rcases h.2 with h2 | ⟨g, cap, cur, e1, e2, e3, e4⟩
  · exact .inl h2
  · exact .inr ⟨g, cap, cur, e1, e2, (hb.block g (Array.getElem?_eq_some_iff.1 e3).1).trans e3, e4⟩
theorem wpList_makeT {w : World} {ops : Array Oper} {rest : List Oper} {o : Oper} {a : Act} {Q : Exit → Act → World → Prop}
    (hg : o.guard = none) (lo co : Operand) (hop : o.op = Op.makeSlice 25 lo co) (n : Nat) (hl : a.eval lo = .int .i64 (n : Int)) (hc : a.eval co = .int .i64 (n : Int)) (hb : n ≤ 1000000)
    (h : ∀ w', w'.ownsRow w.heap.size 9 1 (.slice (some ⟨w.heap.size, 0, none⟩) n n) n ((List.replicate n ([] : Tx)).map encStr) → Below w.heap.size w w' →
      wpList Try.prog ops Q rest (a.put o.dst (.slice (some ⟨w.heap.size, 0, none⟩) n n)) w') :
    wpList Try.prog ops Q (o :: rest) a w := by
  obtain ⟨i0, hi, hz0, hz1, hz2⟩ := info_parts info9
  refine wpList_plain hg fun K hK' => ?_
  obtain ⟨w', hrun, ho, hgr⟩ := run_make_full (P := Try.prog) w w.heap.size 25 9 i0 (.string ByteArray.empty) 1 Try.underlying25 hi hz0 hz1 .i64 .i64 n (by rw [hz2]; omega) (by unfold maxLen; omega) (Nat.le_refl _)
  unfold Oper.wp
  simp [execOp, hop, hl, hc, hrun, Result.andThen]
  refine hK' _ _ (h w' ?_ ((Below.refl _ w).grown hgr (Nat.le_refl _) (fun k e => by cases e)))
  rw [Nat.mul_one] at ho
  have e : (madeCells (Value.string ByteArray.empty).cells n).toList = (List.replicate n ([] : Tx)).map encStr := by
    rw [show (Value.string ByteArray.empty).cells = #[Value.string ByteArray.empty] from rfl, toList_madeCells_one]
    simp
    exact .inr rfl
  rw [← e]
  exact ho

theorem laid_next {l : List Tx} {i : Nat} (hi : i < l.length) : (((l.take i ++ List.replicate (l.length - i) ([] : Tx)).map encStr).set i (encStr (l.getD i []))) = (l.take (i + 1) ++ List.replicate (l.length - (i + 1)) ([] : Tx)).map encStr := by
  rw [← List.map_set]
  congr 1
  apply List.ext_getElem?
  intro j
  obtain ⟨r, hr⟩ : ∃ r, l.length - i = r + 1 := ⟨l.length - i - 1, by omega⟩
  rw [List.getElem?_set]
  have hlen : (l.take i ++ List.replicate (l.length - i) ([] : Tx)).length = l.length := by simp; omega
  by_cases h1 : i = j
  · subst h1
    rw [if_pos rfl, if_pos (by omega), List.getElem?_append_left (by simp; omega)]
    simp [List.getD, List.getElem?_eq_getElem hi, List.getElem?_take]
  · rw [if_neg h1]
    rcases Nat.lt_or_ge j i with h2 | h2
    · rw [List.getElem?_append_left (by simp; omega), List.getElem?_append_left (by simp; omega), List.getElem?_take, List.getElem?_take, if_pos h2, if_pos (by omega)]
    · rw [List.getElem?_append_right (by simp; omega), List.getElem?_append_right (by simp; omega)]
      simp only [List.length_take, List.getElem?_replicate]
      rw [Nat.min_eq_left (by omega), Nat.min_eq_left (by omega)]
      by_cases h3 : j < l.length
      · rw [if_pos (by omega), if_pos (by omega)]
      · rw [if_neg (by omega), if_neg (by omega)]
set_option maxHeartbeats 1000000 in
theorem own_any (w : World) (a : Option Addr) (n c : Nat) (l : List Tx) (h : HasS w a n c l) (hn : n ≤ 1000000) (hs : ∀ s ∈ l, s.length ≤ 1000000) :
    Calls Try.prog 20 #[.slice a n c] w fun e w' => ∃ g, e = .returned (.slice (some ⟨g, 0, none⟩) n n) ∧ HasS w' (some ⟨g, 0, none⟩) n n l ∧ w.heap.size ≤ g ∧ Below w.heap.size w w' := by
  have hl := hide h.hlen
  have H := hide h
  have hss := hide hs
  clear h hs
  go_enter Try.func20, Try.ntmps20
  go_wp2_with (first | (refine wpList_makeT rfl _ _ rfl n rfl rfl hn ?_; intro w1 O1 B1; replace O1 := hide O1; replace B1 := hide B1))
  have i1 : (n : Int) ≤ 1000000 := by omega
  go_loopw [11] (fun iv wr => ∃ i : Nat, i ≤ n ∧ iv = .int .i64 (i : Int) ∧ Hid (wr.ownsRow w.heap.size 9 1 (.slice (some ⟨w.heap.size, 0, none⟩) n n) n ((l.take i ++ List.replicate (l.length - i) ([] : Tx)).map encStr)) ∧ Hid (Below w.heap.size w wr)) (fun iv _ => n - (intOf iv).toNat)
  case atStart => exact ⟨0, Nat.zero_le _, rfl, (by show World.ownsRow _ _ _ _ _ _ _; rw [List.take_zero, List.nil_append, Nat.sub_zero, hl.out]; exact O1.out), B1.out⟩
  case round =>
    obtain ⟨i, hi, rfl, O, B⟩ := hrel
    by_cases hlt : i < n
    · have j1 : (i : Int) < (n : Int) := by omega
      have j2 : (0 : Int) ≤ (i : Int) := by omega
      obtain ⟨b, off, rfl, hb, c1⟩ := H.out.cells i hlt
      have c1i : wr.cell? ⟨b, off + i, none⟩ = some (encStr (l.getD i [])) := (B.out.cell (p := ⟨b, off + i, none⟩) hb).trans c1
      have hil : i < l.length := by rw [hl.out]; exact hlt
      have nx := hide (laid_next hil)
      have sl := hss.out (l.getD i []) (by simp [List.getD, List.getElem?_eq_getElem hil])
      clear c1 hil
      generalize l.getD i [] = s at *
      have LC := hide (cloneS_any s wr sl)
      go_wp2_with fail
      refine LC.out.mono ?_
      rintro e w2 ⟨rfl, B2⟩
      have O2 := ownsRow_keep O.out B2
      have e1 := O2.cellAt i (by omega)
      have e2 := O2.frozenAt i
      have e3 := hide (O2.stored i (encStr s))
      have hx : ∃ u, w2.cell? ⟨w.heap.size, i, none⟩ = some u := by
        rw [e1]
        have hlen := O2.1
        rw [Nat.mul_one] at hlen
        exact ⟨_, List.getElem?_eq_getElem (by rw [hlen]; exact hlt)⟩
      obtain ⟨u, hu⟩ := hx
      have B3 := hide (B.out.trans (B2.mono B.out.size))
      clear e1 O2 B2 LC
      replace c1i := hide c1i
      go_wp2_with fail
      go_roundw
      case rel => exact ⟨i + 1, hlt, by go_num, (by show World.ownsRow _ _ _ _ _ _ _; rw [← nx.out]; exact e3.out.1), B3.out.grown e3.out.2 B3.out.size (fun k e => by cases e; exact Nat.le_refl _)⟩
      case measure => simp [intOf]; omega
    · obtain rfl : i = n := by omega
      have j1 : ¬ (i : Int) < (i : Int) := by omega
      go_wp2_with fail
      go_ret
      have := O.out
      rw [hl.out, Nat.sub_self, List.take_of_length_le (by rw [hl.out]; exact Nat.le_refl _), List.replicate_zero, List.append_nil] at this
      obtain ⟨a', c', e', H'⟩ := hasS_of_owns this
      cases e'
      exact ⟨_, rfl, H', Nat.le_refl _, B.out⟩
/-- Texts that may make a table. -/
def OkL (l : List Tx) : Prop := (∀ s ∈ l, s.length ≤ 256) ∧ (mk l).length ≤ 4096
theorem good_mk {l : List Tx} (h : OkL l) : Good (mk l) := ⟨mk_asc l, fun s hs => h.1 s (mem_mk.1 hs), h.2⟩
theorem contains_any (w : World) (a : Option Addr) (n c : Nat) (l : List Tx) (h : HasS w a n c l) (hn : n ≤ 1000000) :
    Calls Try.prog 17 #[.slice a n c, .func (.func 18) #[] #[]] w fun e w' => e = .returned (.bool (l.any (fun s => decide (256 < s.length)))) ∧ Below w.heap.size w w' := by
  have hl := h.hlen
  rcases Nat.eq_zero_or_pos n with h0 | h0
  · subst h0
    obtain rfl : l = [] := List.eq_nil_of_length_eq_zero hl
    refine (AnyE.slices_ContainsFunc_empty Try.any17 a c (.func (.func 18) #[] #[]) w).mono ?_
    rintro e w' ⟨rfl, rfl⟩
    exact ⟨rfl, Below.refl _ _⟩
  · obtain ⟨b, off, rfl, hb, _⟩ := h.cells 0 h0
    refine (AnyE.slices_ContainsFunc Try.any17 encStr (fun s => decide (256 < s.length)) 18 #[] (enters_of Try.func18 (by kernel_rfl) rfl) b off n c l w (fun W x _ => (tooLong_any x W).mono ?_) (by omega) (by omega) (fun j hj => ?_)).mono ?_
    · rintro e w' ⟨rfl, rfl⟩; exact ⟨rfl, 0, rfl⟩
    · obtain ⟨b', off', e, _, e3⟩ := h.cells j (by omega)
      cases e
      rw [e3]
      simp [List.getD, List.getElem?_eq_getElem hj, hj]
    · rintro e w' ⟨rfl, q, rfl⟩
      refine ⟨by rw [List.take_of_length_le (by omega)], below_drewN (Below.refl _ _) q⟩
theorem box27 (w : World) (v : Value) (h : v.oneCell' = true) : (w.alloc (.cells #[v] 27)).cell? ⟨w.heap.size, 0, none⟩ = some v := by simp
set_option maxHeartbeats 1000000 in
theorem make_ok (w : World) (a : Option Addr) (n c : Nat) (l : List Tx) (h : HasS w a n c l) (hn : n ≤ 1000000) (hk : OkL l) :
    Calls Try.prog 7 #[.slice a n c] w fun e w' => ∃ v, e = .returned (.tuple #[v, .int .i64 0]) ∧ TabV w' v (mk l) ∧ Below w.heap.size w w' := by
  have B0 : Below w.heap.size w (w.alloc (.cells #[.slice none 0 0] 27)) := (Below.refl _ w).alloc (Nat.le_refl _) _
  have h' := h.kept B0 (Nat.le_refl _)
  have H1 := hide (contains_any _ a n c l h' hn)
  have hany : l.any (fun s => decide (256 < s.length)) = false := by
    rw [List.any_eq_false]
    intro s hs
    have := hk.1 s hs
    simp; omega
  rw [hany] at H1
  have b0 : (w.alloc (.cells #[.slice none 0 0] 27)).cell? ⟨w.heap.size, 0, none⟩ = some (.slice none 0 0) := by simp
  have f0 : (w.alloc (.cells #[.slice none 0 0] 27)).frozen? ⟨w.heap.size, 0, none⟩ = false := by simp
  have z0 : w.heap.size < (w.alloc (.cells #[.slice none 0 0] 27)).heap.size := by simp
  generalize hW0 : w.alloc (.cells #[.slice none 0 0] 27) = W0 at *
  have hH := hide h'
  obtain ⟨m, hm⟩ : ∃ m, (mk l).length = m := ⟨_, rfl⟩
  have m1 : m ≤ 4096 := by have := hk.2; omega
  have i1 : (m : Int) ≤ 4096 := by omega
  have hks := hide hk
  replace B0 := hide B0
  clear h h' hk hany
  go_enter Try.func7, Try.ntmps7
  go_wp2_with fail
  refine H1.out.mono ?_
  rintro e w1 ⟨rfl, B1⟩
  have h1 := hH.out.kept B1 (Nat.le_refl _)
  have H2 := hide (sorted_any w1 a n c l h1 hn)
  rw [hm] at H2
  have B1' := hide (B0.out.trans (B1.mono B0.out.size))
  have b1 := hide ((B1.cell (p := ⟨w.heap.size, 0, none⟩) z0).trans b0)
  have g1 := hide ((B1.frozen (p := ⟨w.heap.size, 0, none⟩) z0).trans f0)
  have z1 := hide (Nat.lt_of_lt_of_le z0 B1.size)
  clear h1 B1 b0 f0 z0 hW0
  go_wp2_with fail
  refine H2.out.mono ?_
  rintro e w2 ⟨a2, c2, rfl, h2, B2⟩
  have H3 := hide (own_any w2 a2 m c2 (mk l) h2 (by omega) (fun s hs => by have := (good_mk hks.out).2.1 s hs; omega))
  have B2' := hide (B1'.out.trans (B2.mono B1'.out.size))
  have b2 := hide ((B2.cell (p := ⟨w.heap.size, 0, none⟩) z1.out).trans b1.out)
  have g2 := hide ((B2.frozen (p := ⟨w.heap.size, 0, none⟩) z1.out).trans g1.out)
  have z2 := hide (Nat.lt_of_lt_of_le z1.out B2.size)
  clear h2 B2 b1 g1 z1
  go_wp2_with fail
  refine H3.out.mono ?_
  rintro e w3 ⟨g, rfl, h3, hg, B3⟩
  have hgw := hide (show w.heap.size ≠ g by have := z2.out; omega)
  replace hg := hide hg
  have B3' := B2'.out.trans (B3.mono B2'.out.size)
  have b3 := (B3.cell (p := ⟨w.heap.size, 0, none⟩) z2.out).trans b2.out
  have g3 := (B3.frozen (p := ⟨w.heap.size, 0, none⟩) z2.out).trans g2.out
  have z3 := hide (Nat.lt_of_lt_of_le z2.out B3.size)
  replace h3 := hide h3
  replace B3' := hide B3'
  clear B3 b2 g2 z2
  go_wp2_with fail
  have o0 : (w3.setCell ⟨w.heap.size, 0, none⟩ (.slice (some ⟨g, 0, none⟩) m m)).cell? ⟨w.heap.size, 0, none⟩ = some (.slice (some ⟨g, 0, none⟩) m m) := World.cell?_setCell_same' _ _ _ (by rw [b3]; rfl)
  refine bodyPost_ret (v := .tuple #[.agg #[.slice (some ⟨g, 0, none⟩) m m], .int .i64 0]) (by simp [results, Try.f7, go_sem, o0]) rfl ?_
  refine ⟨_, rfl, ⟨_, _, _, rfl, ?_⟩, B3'.out.setCell (Nat.le_refl _) _⟩
  obtain ⟨q1, q2, q3, q4, q5⟩ := h3.out
  refine ⟨q1, q2, q3, q4, fun i hi => ?_⟩
  obtain ⟨b, off, e1, e2, e3⟩ := q5 i hi
  cases e1
  refine ⟨_, _, rfl, by simpa [World.setCell] using e2, ?_⟩
  rw [World.cell?_setCell_far _ _ _ _ hgw.out]; exact e3
set_option maxHeartbeats 1000000 in
theorem make_no (w : World) (a : Option Addr) (n c : Nat) (l : List Tx) (h : HasS w a n c l) (hn : n ≤ 1000000) (hk : ¬ OkL l) :
    Calls Try.prog 7 #[.slice a n c] w fun e w' => e = .returned (.tuple #[voidV, .int .i64 3]) ∧ Below w.heap.size w w' := by
  have B0 : Below w.heap.size w (w.alloc (.cells #[.slice none 0 0] 27)) := (Below.refl _ w).alloc (Nat.le_refl _) _
  have h' := h.kept B0 (Nat.le_refl _)
  have H1 := hide (contains_any _ a n c l h' hn)
  have b0 : (w.alloc (.cells #[.slice none 0 0] 27)).cell? ⟨w.heap.size, 0, none⟩ = some (.slice none 0 0) := by simp
  have f0 : (w.alloc (.cells #[.slice none 0 0] 27)).frozen? ⟨w.heap.size, 0, none⟩ = false := by simp
  have z0 : w.heap.size < (w.alloc (.cells #[.slice none 0 0] 27)).heap.size := by simp
  have hz : ∀ w, (zeroValue 27).run Try.prog w = .ok (.agg #[.slice none 0 0]) w := fun w => by kernel_rfl
  generalize hW0 : w.alloc (.cells #[.slice none 0 0] 27) = W0 at *
  have hH := hide h'
  obtain ⟨m, hm⟩ : ∃ m, (mk l).length = m := ⟨_, rfl⟩
  by_cases hany : l.any (fun s => decide (256 < s.length)) = true
  · rw [hany] at H1
    replace B0 := hide B0
    clear h h' hk hany
    go_enter Try.func7, Try.ntmps7
    go_wp2_with fail
    refine H1.out.mono ?_
    rintro e w1 ⟨rfl, B1⟩
    have B3' := hide (B0.out.trans (B1.mono B0.out.size))
    have b3 := ((B1.cell (p := ⟨w.heap.size, 0, none⟩) z0).trans b0)
    have g3 := ((B1.frozen (p := ⟨w.heap.size, 0, none⟩) z0).trans f0)
    clear B1 b0 f0 z0 hW0
    go_wp2_with fail
    have o0 : (w1.setCell ⟨w.heap.size, 0, none⟩ (.slice none 0 0)).cell? ⟨w.heap.size, 0, none⟩ = some (.slice none 0 0) := World.cell?_setCell_same' _ _ _ (by rw [b3]; rfl)
    refine bodyPost_ret (v := .tuple #[voidV, .int .i64 3]) (by simp [results, Try.f7, go_sem, o0, voidV]) rfl ?_
    exact ⟨rfl, B3'.out.setCell (Nat.le_refl _) _⟩
  · have hany2 : l.any (fun s => decide (256 < s.length)) = false := by simpa using hany
    rw [hany2] at H1
    have m1 : 4096 < m := by
      rcases Nat.lt_or_ge 4096 m with h1 | h1
      · exact h1
      · exfalso
        refine hk ⟨fun s hs => ?_, by omega⟩
        have := (List.any_eq_false.1 hany2) s hs
        simp at this
        exact this
    have i1 : (4096 : Int) < (m : Int) := by omega
    replace B0 := hide B0
    clear h h' hk hany hany2
    go_enter Try.func7, Try.ntmps7
    go_wp2_with fail
    refine H1.out.mono ?_
    rintro e w1 ⟨rfl, B1⟩
    have h1 := hH.out.kept B1 (Nat.le_refl _)
    have H2 := hide (sorted_any w1 a n c l h1 hn)
    rw [hm] at H2
    have B1' := hide (B0.out.trans (B1.mono B0.out.size))
    have b1 := hide ((B1.cell (p := ⟨w.heap.size, 0, none⟩) z0).trans b0)
    have g1 := hide ((B1.frozen (p := ⟨w.heap.size, 0, none⟩) z0).trans f0)
    have z1 := hide (Nat.lt_of_lt_of_le z0 B1.size)
    clear h1 B1 b0 f0 z0 hW0
    go_wp2_with fail
    refine H2.out.mono ?_
    rintro e w2 ⟨a2, c2, rfl, h2, B2⟩
    have B3' := hide (B1'.out.trans (B2.mono B1'.out.size))
    have b3 := ((B2.cell (p := ⟨w.heap.size, 0, none⟩) z1.out).trans b1.out)
    have g3 := ((B2.frozen (p := ⟨w.heap.size, 0, none⟩) z1.out).trans g1.out)
    clear h2 B2 b1 g1 z1
    go_wp2_with fail
    have o0 : (w2.setCell ⟨w.heap.size, 0, none⟩ (.slice none 0 0)).cell? ⟨w.heap.size, 0, none⟩ = some (.slice none 0 0) := World.cell?_setCell_same' _ _ _ (by rw [b3]; rfl)
    refine bodyPost_ret (v := .tuple #[voidV, .int .i64 3]) (by simp [results, Try.f7, go_sem, o0, voidV]) rfl ?_
    exact ⟨rfl, B3'.out.setCell (Nat.le_refl _) _⟩
end Go.Proofs.Ytbinnpadmajgpaa
