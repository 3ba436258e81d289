/-
  Two sets, gone through two labels at a time: the iterator. A region that draws, inside a round.
-/
import Derived.Test.YtlmpndmceiihaaaC
namespace Go.Proofs.Ytlmpndmceiihaaa
open Go.RowKit Go.Shelf
set_option linter.unusedVariables false
attribute [local go_sem] Oper.semAt_some

section
variable {F : Fence} {n : Nat} {P : Program} {ops : Array Oper} {Q : Exit → Act → World → Prop} {md : Region.Mode}
/-- What an operation that defers nothing does, it does in a round too. -/
theorem opIn_inRound {o : Oper} {a : Act} {w : World} {K : Act → World → Prop} (l : Nat) (hd : ∀ c, o.op ≠ .defer c) (h : Oper.wpIn F n P o a w K Q) : Oper.wpIn (F.inRound l) n P o a w K Q := by
  refine ⟨h.1, ?_⟩
  have h2 := h.2
  rw [Oper.semAt_eq _ _ _ hd] at h2 ⊢
  exact h2
theorem anyIn_inRound (l : Nat) (hd : ∀ (j : Nat) (o : Oper), ops[j]? = some o → ∀ c, o.op ≠ .defer c) : ∀ (fuel : Nat) (listed : Array Bool) (a : Act) (w : World), wpAnyIn F n P md ops Q fuel listed a w → wpAnyIn (F.inRound l) n P md ops Q fuel listed a w := by
  intro fuel
  induction fuel with
  | zero => intro listed a w h; exact h
  | succ fuel ih =>
    intro listed a w h
    refine ⟨h.1, fun i hi => ?_⟩
    have h2 := h.2 i hi
    unfold wpOpIn at h2 ⊢
    cases ho : ops[i]? with
    | none => rw [ho] at h2; exact ih _ _ _ h2
    | some o =>
      rw [ho] at h2
      simp only at h2 ⊢
      by_cases hw : Region.wanted o (yielded ops a.tmps) = true
      · rw [if_pos hw] at h2 ⊢
        exact opIn_inRound l (hd i o ho) (Oper.wpIn_mono (fun a w h => ih _ _ _ h) h2)
      · rw [if_neg hw] at h2 ⊢
        exact ⟨h2.1, ih _ _ _ h2.2⟩
end

theorem below_grown {w w' : World} (h : Below w.heap.size w w') : w.grownBy w' none := ⟨h.os, h.tape, h.output, h.size, fun k hk _ => h.block k hk⟩
theorem abides_below {β : Type} {B : Nat} {J : β → World → Prop} (h : AbidesFrom B J) {s : β} {w w' : World} (hs : J s w) (hb : Below w.heap.size w w') : J s w' := h s w w' none hs (below_grown hb) (fun r e => by cases e)
theorem below_drews {B : Nat} {w w' : World} (h : Below B w w') : Below B w w'.drew := h.drew
theorem yes_no {e : Ending} {A B : Prop} (h : (e = .returned (.bool true) ∧ A) ∨ (e = .returned (.bool false) ∧ B)) : ∃ bb : Bool, e = .returned (.bool bb) ∧ Hid ((bb = true ∧ A) ∨ (bb = false ∧ B)) := by
  rcases h with ⟨h1, h2⟩ | ⟨h1, h2⟩
  · exact ⟨true, h1, .inl ⟨rfl, h2⟩⟩
  · exact ⟨false, h1, .inr ⟨rfl, h2⟩⟩
def labV (p : Lab) : Value := .agg #[.string p.1, .string p.2]
def pairV (x : Lab × Lab) : Array Value := #[labV x.1, labV x.2]

set_option maxHeartbeats 1000000 in
theorem pairs_in (n : Nat) (a a' : Option Addr) (len cap len' cap' : Nat) (w : World) :
    CallsIn Fence.wide n Try.prog 39 #[.slice a len cap, .slice a' len' cap'] w fun e w' => e = .returned (.func (.func 47) #[] #[.pointer (some ⟨w.heap.size, 0, none⟩), .pointer (some ⟨w.heap.size + 1, 0, none⟩)]) ∧ w' = (w.alloc (.cells #[.slice a len cap] 23)).alloc (.cells #[.slice a' len' cap'] 23) := by
  refine callsIn_of_wp Try.func39 rfl trivial ?_ rfl
  simp only [Try.ntmps39, List.size_toArray, List.length_cons, List.length_nil, Nat.reduceAdd, Nat.reduceSub, Array.replicate_succ, Array.replicate_zero, List.push_toArray, List.append_toArray, List.nil_append, List.cons_append]
  gi_wp2
  go_ret
  exact ⟨rfl, rfl⟩

theorem zip_take {L M : List Lab} {k : Nat} (h1 : k < L.length) (h2 : k < M.length) : (L.zip M).take (k + 1) = (L.zip M).take k ++ [(L.getD k noLab, M.getD k noLab)] := by
  have h : k < (L.zip M).length := by simp; omega
  rw [List.take_add_one, List.getElem?_eq_getElem h]
  simp [List.getD, List.getElem?_eq_getElem h1, List.getElem?_eq_getElem h2]

set_option maxRecDepth 100000 in
set_option maxHeartbeats 4000000 in
theorem pairs1_in (n : Nat) (hn : 1 ≤ n) (y B1 B2 n₁ : Nat) (a a' : Option Addr) (len cap len' cap' : Nat) (L M : List Lab) (w1 : World) (hL : HasB w1 a len cap L) (hM : HasB w1 a' len' cap' M) (hw1 : w1.heap.size = n₁)
    (hB1 : w1.cell? ⟨B1, 0, none⟩ = some (.slice a len cap)) (hB2 : w1.cell? ⟨B2, 0, none⟩ = some (.slice a' len' cap')) (J Jx : List (Lab × Lab) → World → Prop)
    (W : World) (hAJ : AbidesFrom W.heap.size J)
    (hY : ∀ pre (x : Lab × Lab) W, J pre W → pre.length < (L.zip M).length → YieldAt Fence.wide (n - 1) Try.prog y (pairV x) W fun e W' =>
      (e = .returned (.bool true) ∧ J (pre ++ [x]) W' ∧ Below n₁ W W') ∨ (e = .returned (.bool false) ∧ Jx (pre ++ [x]) W'))
    (hb0 : Below n₁ w1 W) (h0 : J [] W) :
    CallsIn Fence.wide n Try.prog 47 #[.func (.yield y) #[] #[], .pointer (some ⟨B1, 0, none⟩), .pointer (some ⟨B2, 0, none⟩)] W fun e W' => (∃ v, e = .returned v) ∧
      ((∃ ys, ys = L.zip M ∧ J ys W') ∨ (∃ pre, pre <+: L.zip M ∧ Jx pre W')) := by
  have hl := hL.hlen
  have hl' := hM.hlen
  have hle := hL.le
  have hle' := hM.le
  have hcap := hL.capb
  have hcap' := hM.capb
  unfold maxLen at hcap hcap'
  have hb1 : B1 < n₁ := by have : B1 < w1.heap.size := World.block_lt_of_cell? w1 _ hB1; omega
  have hb2 : B2 < n₁ := by have : B2 < w1.heap.size := World.block_lt_of_cell? w1 _ hB2; omega
  obtain ⟨m, hm⟩ : ∃ m, min len len' = m := ⟨_, rfl⟩
  have em : (if (len' : Int) < (len : Int) then (len' : Int) else (len : Int)) = (m : Int) := by split <;> omega
  have em2 : (if len' < len then (len' : Int) else (len : Int)) = (m : Int) := by split <;> omega
  have hzl : (L.zip M).length = m := by simp; omega
  have c1 : W.cell? ⟨B1, 0, none⟩ = some (.slice a len cap) := (hb0.cell (p := ⟨B1, 0, none⟩) hb1).trans hB1
  have c2 : W.cell? ⟨B2, 0, none⟩ = some (.slice a' len' cap') := (hb0.cell (p := ⟨B2, 0, none⟩) hb2).trans hB2
  replace hL := hide hL
  replace hM := hide hM
  replace hB1 := hide hB1
  replace hB2 := hide hB2
  replace hm := hide hm
  replace hzl := hide hzl
  refine callsIn_of_wp Try.func47 rfl trivial ?_ rfl
  simp only [Try.ntmps47, List.size_toArray, List.length_cons, List.length_nil, Nat.reduceAdd, Nat.reduceSub, Array.replicate_succ, Array.replicate_zero, List.push_toArray, List.append_toArray, List.nil_append, List.cons_append]
  gi_wp2
  clear c1 c2
  gi_loopw [10, 4] (fun i _ wr => ∃ (k : Nat), k ≤ m ∧ i = .int .i64 (k : Int) ∧ Hid (J ((L.zip M).take k) wr) ∧ Hid (Below n₁ w1 wr))
    (fun i _ _ => m - (intOf i).toNat)
  case atStart => exact ⟨0, Nat.zero_le _, rfl, h0, hb0⟩
  case round =>
    obtain ⟨k, hk, rfl, hJ, hB⟩ := hrel
    by_cases hkm : k < m
    · have hm2 := hm.out
      obtain ⟨b, off, rfl, hbl, hcl⟩ := hL.out.cells (by omega)
      obtain ⟨b', off', rfl, hbl', hcl'⟩ := hM.out.cells (by omega)
      have i1 : (k : Int) < (m : Int) := by omega
      have i2 : (k : Int) < len := by omega
      have i3 : (k : Int) < len' := by omega
      have hJd : J ((L.zip M).take k) wr.drew := abides_below hAJ hJ.out (Below.refl _ wr).drew
      have hBd : Hid (Below n₁ w1 wr.drew) := hB.out.drew
      have c1 : wr.drew.cell? ⟨B1, 0, none⟩ = some (.slice (some ⟨b, off, none⟩) len cap) := (hBd.out.cell (p := ⟨B1, 0, none⟩) hb1).trans hB1.out
      have c2 : wr.drew.cell? ⟨B2, 0, none⟩ = some (.slice (some ⟨b', off', none⟩) len' cap') := (hBd.out.cell (p := ⟨B2, 0, none⟩) hb2).trans hB2.out
      have d0 : wr.drew.cell? ⟨b, off + k * 2, none⟩ = some (.string (L.getD k noLab).1) := (hBd.out.cell (p := ⟨b, off + k * 2, none⟩) (by show b < n₁; omega)).trans (hcl k (by omega)).1
      have d1 : wr.drew.cell? ⟨b, off + k * 2 + 1, none⟩ = some (.string (L.getD k noLab).2) := (hBd.out.cell (p := ⟨b, off + k * 2 + 1, none⟩) (by show b < n₁; omega)).trans (hcl k (by omega)).2
      have d2 : wr.drew.cell? ⟨b', off' + k * 2, none⟩ = some (.string (M.getD k noLab).1) := (hBd.out.cell (p := ⟨b', off' + k * 2, none⟩) (by show b' < n₁; omega)).trans (hcl' k (by omega)).1
      have d3 : wr.drew.cell? ⟨b', off' + k * 2 + 1, none⟩ = some (.string (M.getD k noLab).2) := (hBd.out.cell (p := ⟨b', off' + k * 2 + 1, none⟩) (by show b' < n₁; omega)).trans (hcl' k (by omega)).2
      have hyy := hY ((L.zip M).take k) (L.getD k noLab, M.getD k noLab) wr.drew hJd (by rw [List.length_take, hzl.out]; omega)
      rw [← zip_take (by omega) (by omega)] at hyy
      unfold pairV labV at hyy
      generalize L.getD k noLab = x at d0 d1 hyy
      generalize M.getD k noLab = z at d2 d3 hyy
      obtain ⟨x0, x1⟩ := x
      obtain ⟨z0, z1⟩ := z
      simp only at d0 d1 d2 d3 hyy
      obtain ⟨fn, tmps, assign, body, hy', hR⟩ := hyy
      replace hR := hide hR
      clear hcl hcl' hJd
      gi_wp2
      gi_region_with (first | (refine hR.out.mono ?_; rintro e W3 hcase; obtain ⟨bb, rfl, hbb⟩ := yes_no hcase; clear hcase))
      all_goals exact (by
        clear c1 c2 d0 d1 d2 d3 hR
        rcases hbb.out with ⟨rfl, h1, h2⟩ | ⟨rfl, h1⟩
        · replace h1 := hide h1
          have h3 : Hid (Below n₁ w1 W3) := hBd.out.trans h2
          clear hbb h2
          gi_wp2
          exact ⟨⟨k + 1, by omega, by go_num, h1, h3⟩, by simp [intOf]; omega⟩
        · replace h1 := hide h1
          clear hbb
          gi_wp2
          (try simp only [Exit.inBlock, Exit.then])
          refine bodyPost_ret (results_none rfl _ _ _) rfl ?_
          exact ⟨⟨_, rfl⟩, .inr ⟨_, List.take_prefix _ _, h1.out⟩⟩)
    · obtain rfl : k = m := by omega
      gi_wp2
      go_end0
      exact ⟨⟨_, rfl⟩, .inl ⟨_, List.take_of_length_le (by rw [hzl.out]; exact Nat.le_refl _), hJ.out⟩⟩
end Go.Proofs.Ytlmpndmceiihaaa
