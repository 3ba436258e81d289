/-
  All names of a disk: slices.AppendSeq, slices.Collect of the iterator that gives them, Names.
-/
import Derived.Test.YtgbijkdfhkkieaaTF
namespace Go.Proofs.Ytgbijkdfhkkieaa
open Go.RowKit Go.Maps Go.Sort Go.Shelf
set_option linter.unusedVariables false
set_option linter.unusedSimpArgs false
attribute [local go_sem] Oper.semAt_some
theorem info9 : (Try.prog.info? 9).map (fun i => (i.zero, i.size, i.bytes)) = some (some (.string ⟨#[]⟩), 1, 16) := by kernel_rfl
/-- The names that have come so far, in a box of their own. -/
structure Ap (w0 : World) (bx : Nat) (pre : List (List UInt8)) (W : World) : Prop where
  bl : Below w0.heap.size w0 W
  box : ∃ v, Bx W bx 45 #[v] ∧ W.ownsRow w0.heap.size 9 1 v pre.length (pre.map encStr)
theorem row_typ9 {w : World} {base n k : Nat} {v : Value} {xs : List Value} (h : w.ownsRow base 9 1 v n xs) (hk : v.ownBlock = some k) : ∃ cur, Bx w k 9 cur := by
  rcases h.2 with ⟨rfl, _⟩ | ⟨g, cap, cur, rfl, _, hb, _⟩
  · cases hk
  · cases hk; exact ⟨cur, hb⟩
theorem not_cells {W : World} {k : Nat} {o : Obj} {t : TypeId} {xs : Array Value} (h : Bx W k t xs) (ho : W.heap[k]? = some o) (hn : o.isCells = false) : False := by
  have := ho.symm.trans h
  simp only [Option.some.injEq] at this
  subst this
  cases hn
theorem Ap.own {w0 W W' : World} {bx : Nat} {pre : List (List UInt8)} {row : Option Nat} (h : Ap w0 bx pre W) (hg : W.grownBy W' row) (hr : ∀ r, row = some r → w0.heap.size ≤ r ∧ ∃ o : Obj, W.heap[r]? = some o ∧ o.isCells = false) : Ap w0 bx pre W' := by
  obtain ⟨v, hX, hO⟩ := h.box
  refine ⟨h.bl.grown hg h.bl.size (fun k e => (hr k e).1), v, (hg.block bx hX.lt (fun e => ?_)).trans hX, owns_of_block hO (fun k hk => hg.block k (hO.lt k hk).2 (fun e => ?_))⟩
  · obtain ⟨_, o, ho, hn⟩ := hr bx e.symm
    exact not_cells hX ho hn
  · obtain ⟨_, o, ho, hn⟩ := hr k e.symm
    obtain ⟨cur, hc⟩ := row_typ9 hO hk
    exact not_cells hc ho hn
set_option maxHeartbeats 4000000 in
set_option maxRecDepth 100000 in
theorem appendSeq_in (n : Nat) (hn : 3 ≤ n) (Bs b : Nat) (zs : List (List UInt8)) (hreach : zs.length ≤ 1073741824) (w : World) (h : Nrow w Bs b zs) (hb : b < w.heap.size) :
    CallsIn Fence.wide n Try.prog 80 #[.slice none 0 0, .func (.func 81) #[] #[.pointer (some ⟨Bs, 0, none⟩)]] w fun e w' => ∃ v, e = .returned v ∧ w'.ownsRow w.heap.size 9 1 v zs.length (zs.map encStr) ∧ Below w.heap.size w w' := by
  obtain ⟨i0, hi, hz0, hz1, hz2⟩ := info_parts info9
  have hval := values_stops (fun x : List UInt8 => x) (n - 1) (by omega) Bs b zs (by omega) w (by simpa using h)
  have hBs : Bs < w.heap.size := h.1
  clear h
  refine callsIn_of_wp_marks Try.func80 rfl trivial ?_ rfl
  simp only [Try.ntmps80, List.size_toArray, List.length_cons, List.length_nil, Nat.reduceAdd, Nat.reduceSub, Array.replicate_succ, Array.replicate_zero, List.push_toArray, List.append_toArray, List.nil_append, List.cons_append]
  gi_wp2
  obtain ⟨wA, hwA⟩ : ∃ x, w.alloc (.cells #[.slice none 0 0] 45) = x := ⟨_, rfl⟩
  have BA : Below w.heap.size w wA := by rw [← hwA]; exact (Below.refl _ w).alloc (Nat.le_refl _) _
  have XA : Bx wA w.heap.size 45 #[.slice none 0 0] := by rw [← hwA]; exact Bx.new w 45 _
  have A0 : Ap w w.heap.size [] wA := ⟨BA, _, XA, ⟨rfl, .inl ⟨rfl, rfl⟩⟩⟩
  have hsA : w.heap.size < wA.heap.size := XA.lt
  rw [hwA]
  refine wpIn_rangeFunc_ownG rfl (by omega) (gf := 81) (lb := #[.pointer (some ⟨Bs, 0, none⟩)]) rfl trivial (enters_of Try.func81 (by kernel_rfl) rfl)
    hval (fun h k => h.trans k) (fun W l o o' hl ho _ _ => ⟨?_, ?_⟩) BA (fun _ => rfl)
    (fun pre W => Ap w w.heap.size pre W)
    (fun _ _ _ => False)
    (fun pre W W' row hs hg hr => hs.own hg (fun r e => ⟨by have := (hr r e).1; omega, (hr r e).2⟩))
    (fun _ _ _ _ _ hs _ _ => hs)
    A0
    (fun x => { tmps := #[.slice none 0 0, .func (.func 81) #[] #[.pointer (some ⟨Bs, 0, none⟩)], .pointer (some ⟨w.heap.size, 0, none⟩), undef, .slice none 0 0, encStr x, .func (.func 81) #[] #[.pointer (some ⟨Bs, 0, none⟩)], encStr x, undef, undef, undef, undef, undef], defers := [] }) ?assign ?body ?done ?stop
  case refine_1 => exact (grownBy_putObj' W l o').block Bs (by have := (Array.getElem?_eq_some_iff.1 ho).1; omega) (fun e => by cases e; omega)
  case refine_2 => exact (grownBy_putObj' W l o').block b (by have := (Array.getElem?_eq_some_iff.1 ho).1; omega) (fun e => by cases e; omega)
  case assign =>
    intro l x W K hK
    gi_wp2
    exact hK
  case body =>
    rintro l pre x W hA hlt
    obtain ⟨v, hX, hO⟩ := hA.box
    have c0 := hX.cell 0
    simp only [List.getElem?_toArray, List.getElem?_cons_zero] at c0
    have f0 := hX.fz 0
    have hXl := hX.lt
    have hOa := hide (hO.alloc (.cells #[encStr x] 9))
    have hsz : w.heap.size ≤ W.heap.size := hA.bl.size
    gi_wp2_with (first
      | (gi_at_builtin; refine wpListIn_append_own _ rfl _ _ 45 rfl w.heap.size 9 i0 (.string ⟨#[]⟩) 1 16 Try.underlying45 hi hz0 hz1 hz2 rfl (by decide) _ _ _ rfl hOa.out ⟨W.heap.size, 0, none⟩ 1 1 [encStr x] rfl rfl (cell_one_new _ _ _) (by simp [Value.oneCell', encStr]) (by unfold maxLen; omega) (by omega) (by simp; omega) ?_
         intro v' w3 hown' hg3 hnil3
         have bW : But (fun k => v.ownBlock = some k) W w3 := ((but_alloc _ W _)).grown hg3 (fun k e _ => e)
         have hnv : ¬ v.ownBlock = some w.heap.size := fun e => by
           obtain ⟨cur, hc⟩ := row_typ9 hO e
           have := (hc.typ hX).1
           cases this
         have X3 := hX.but bW hnv
         have c3 := X3.cell 0
         simp only [List.getElem?_toArray, List.getElem?_cons_zero] at c3
         have f3 := X3.fz 0
         obtain ⟨a', n', cap', rfl⟩ : ∃ a' n' cap', v' = .slice a' n' cap' := (by rcases hown'.2 with ⟨rfl, _⟩ | ⟨g, cap, cur, rfl, _⟩; exact ⟨_, _, _, rfl⟩; exact ⟨_, _, _, rfl⟩)
         replace bW := hide bW
         replace X3 := hide X3
         replace hown' := hide hown'
         replace hnv := hide hnv
         clear hg3 hnil3))
    have b4 : But (fun k => k = w.heap.size ∨ v.ownBlock = some k) W (w3.setCell ⟨w.heap.size, 0, none⟩ (.slice a' n' cap')) := (bW.out.mono (fun k e => .inr e)).setCell (p := ⟨w.heap.size, 0, none⟩) (fun _ => .inl rfl) _
    have hne9 : ¬ (Value.slice a' n' cap').ownBlock = some w.heap.size := fun e => by
      obtain ⟨cur, hc⟩ := row_typ9 hown'.out e
      have := (hc.typ X3.out).1
      cases this
    refine ⟨⟨b4.size, fun k o hk hko hno => ?_⟩, ⟨b4.block Bs (by omega) (fun e => ?_), b4.block b (by omega) (fun e => ?_)⟩, ?_⟩
    · rw [b4.block k (Array.getElem?_eq_some_iff.1 hko).1 (fun e => ?_)]
      · exact hko
      · rcases e with e | e
        · omega
        · obtain ⟨cur, hc⟩ := row_typ9 hO e
          exact not_cells hc hko hno
    · rcases e with e | e
      · omega
      · have := (hO.lt Bs e).1; omega
    · rcases e with e | e
      · omega
      · have := (hO.lt b e).1; omega
    · refine ⟨hA.bl.trans ⟨b4.os, b4.tape, b4.output, b4.size, fun k hk => b4.block k (by omega) (fun e => ?_)⟩, _, X3.out.set1 0 _, ?_⟩
      · rcases e with e | e
        · omega
        · have := (hO.lt k e).1; omega
      · have hl : (pre ++ [x]).length = pre.length + 1 := by simp
        rw [hl, List.map_append]
        exact owns_of_block hown'.out (fun k hk => (but_setCell w3 w.heap.size 0 _).block k (hown'.out.lt k hk).2 (fun e => hne9 (e ▸ hk)))
  case done =>
    rintro D5 ys W hD rfl hA hK
    obtain ⟨v, hX, hO⟩ := hA.box
    have c0 := hX.cell 0
    simp only [List.getElem?_toArray, List.getElem?_cons_zero] at c0
    obtain ⟨a', n', cap', rfl⟩ : ∃ a' n' cap', v = .slice a' n' cap' := (by rcases hO.2 with ⟨rfl, _⟩ | ⟨g, cap, cur, rfl, _⟩; exact ⟨_, _, _, rfl⟩; exact ⟨_, _, _, rfl⟩)
    have A9 : Hid (Ap w w.heap.size ys (W.putObj D5 (.deferred none))) := hA.own (grownBy_putObj' W D5 _) (fun r e => by cases e; exact ⟨by omega, _, hK, rfl⟩)
    have O9 : Hid ((W.putObj D5 (.deferred none)).ownsRow w.heap.size 9 1 (.slice a' n' cap') ys.length (ys.map encStr)) := owns_of_block hO (fun k hk => (grownBy_putObj' W D5 (.deferred none)).block k (hO.lt k hk).2 (fun e => by
      cases e
      obtain ⟨cur, hc⟩ := row_typ9 hO hk
      exact not_cells hc hK rfl))
    replace hO := hide hO
    replace hX := hide hX
    gi_wp2
    refine ⟨by simp, .inl ⟨_, _, rfl, run_takeDeferred hK, ?_⟩⟩
    exact ⟨_, results_tmp rfl _ _ _, ⟨.slice a' n' cap', rfl, O9.out, A9.out.bl⟩⟩
  case stop =>
    rintro D5 c pre W _ _ hh _
    exact hh.elim
/-- A slice of names. -/
structure HasS (w : World) (a : Option Addr) (len cap : Nat) (L : List (List UInt8)) : Prop where
  hlen : L.length = len
  le : len ≤ cap
  capb : cap ≤ maxLen
  cells : 0 < len → ∃ b off, a = some ⟨b, off, none⟩ ∧ b < w.heap.size ∧ ∀ i, i < len → w.cell? ⟨b, off + i, none⟩ = some (.string ⟨(L.getD i []).toArray⟩)
theorem HasS.kept {w w' : World} {a : Option Addr} {n c : Nat} {L : List (List UInt8)} (h : HasS w a n c L) {S : Nat → Prop} (hb : But S w w') (hS : 0 < n → ∀ k, (Value.slice a n c).ownBlock = some k → ¬ S k) : HasS w' a n c L := by
  refine ⟨h.hlen, h.le, h.capb, fun hp => ?_⟩
  obtain ⟨b, off, e1, e2, e3⟩ := h.cells hp
  refine ⟨b, off, e1, Nat.lt_of_lt_of_le e2 hb.size, fun i hi => ?_⟩
  have hk : w'.heap[b]? = w.heap[b]? := hb.block b e2 (hS hp b (by rw [e1]; rfl))
  rw [← e3 i hi]
  unfold World.cell?
  simp only [hk]
theorem hasS_of {w : World} {base : Nat} {v : Value} {L : List (List UInt8)} (h : w.ownsRow base 9 1 v L.length (L.map encStr)) : ∃ a cap, v = .slice a L.length cap ∧ HasS w a L.length cap L ∧ ∀ k, v.ownBlock = some k → base ≤ k := by
  rcases h.2 with ⟨rfl, h0⟩ | ⟨g, cap, cur, rfl, hbg, hg, hnc, hcm, hcs, htake⟩
  · have : L = [] := List.eq_nil_of_length_eq_zero h0
    subst this
    exact ⟨none, 0, rfl, ⟨rfl, Nat.le_refl _, Nat.zero_le _, fun h => by simp at h⟩, fun k hk => by cases hk⟩
  · refine ⟨some ⟨g, 0, none⟩, cap, rfl, ⟨rfl, hnc, hcm, fun hp => ⟨g, 0, rfl, (Array.getElem?_eq_some_iff.1 hg).1, fun i hi => ?_⟩⟩, fun k hk => (h.lt k hk).1⟩
    have := h.cells (g := g) rfl i (encStr (L.getD i [])) (by
      simp [List.getD, List.getElem?_eq_getElem hi])
    rw [add_plain] at this
    exact this
set_option maxHeartbeats 1000000 in
theorem collect_any (Bs b : Nat) (zs : List (List UInt8)) (hreach : zs.length ≤ 1073741824) (w : World) (h : Nrow w Bs b zs) (hb : b < w.heap.size) :
    Calls Try.prog 58 #[.func (.func 81) #[] #[.pointer (some ⟨Bs, 0, none⟩)]] w fun e w' => ∃ a cap, e = .returned (.slice a zs.length cap) ∧ HasS w' a zs.length cap zs ∧ Below w.heap.size w w' ∧ ∀ k, (Value.slice a zs.length cap).ownBlock = some k → w.heap.size ≤ k := by
  have AP := hide (callsIn_wide.1 (appendSeq_in 5 (by omega) Bs b zs hreach w h hb))
  clear h
  go_enter Try.func58, Try.ntmps58
  go_wp2_with fail
  refine AP.out.mono ?_
  rintro e w' ⟨v, rfl, hO, hB⟩
  obtain ⟨a, cap, rfl, hS, hk⟩ := hasS_of hO
  replace hS := hide hS
  replace hB := hide hB
  replace hk := hide hk
  clear hO
  go_wp2_with fail
  go_ret
  exact ⟨a, cap, rfl, hS.out, hB.out, hk.out⟩
section
variable {w w' : World} {d : Nat} {m : M} {T : Nat → Prop}
set_option maxHeartbeats 1000000 in
theorem names_disk (h : Disk w d m T) (hn : m.n ≤ 1073741824) (hg : m.gone = false) : Calls Try.prog 21 #[ptr d] w fun e w' => ∃ a cap, e = .returned (.slice a (nms m.files).length cap) ∧ HasS w' a (nms m.files).length cap (nms m.files) ∧ Below w.heap.size w w' ∧ ∀ k, (Value.slice a (nms m.files).length cap).ownBlock = some k → w.heap.size ≤ k := by
  obtain ⟨bf, bs, V, h⟩ := h
  obtain ⟨c0, c1, c2, c3, c4, c5, c6⟩ := h.cs
  rw [hg] at c1
  have IM := hide (isMade_any h)
  have NM := hide (names_any w bf m.n m.files h.mf hn)
  have hl := nms_length h.mf
  generalize nms m.files = zs at *
  clear h
  go_enter Try.func21, Try.ntmps21
  go_wp2_with fail
  refine IM.out.mono ?_
  rintro e w1 ⟨rfl, hw⟩; replace hw := hw.symm; subst hw
  go_wp2_with fail
  refine NM.out.mono ?_
  rintro e w1 ⟨Bs, br, rfl, hN, B1, hBs, hbr, hbl⟩
  have CO := hide (collect_any Bs br zs (by omega) w1 hN hbl)
  replace B1 := hide B1
  clear hN IM NM
  go_wp2_with fail
  refine CO.out.mono ?_
  rintro e w2 ⟨a, cap, rfl, hS, B2, hk⟩
  have B3 : Hid (Below w.heap.size w w2) := B1.out.trans (B2.mono B1.out.size)
  have hk3 : Hid (∀ k, (Value.slice a zs.length cap).ownBlock = some k → w.heap.size ≤ k) := fun k e => Nat.le_trans B1.out.size (hk k e)
  replace hS := hide hS
  clear B2 hk CO
  go_wp2_with fail
  go_ret
  exact ⟨a, cap, rfl, hS.out, B3.out, hk3.out⟩
end
end Go.Proofs.Ytgbijkdfhkkieaa
