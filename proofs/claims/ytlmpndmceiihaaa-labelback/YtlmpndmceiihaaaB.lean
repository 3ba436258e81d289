/-
  Labels in memory; the walk of SameLabels.
-/
import Derived.Test.YtlmpndmceiihaaaA
import Derived.Laws.StructEq
namespace Go.Proofs.Ytlmpndmceiihaaa
open Go.RowKit
set_option linter.unusedVariables false

def noLab : Lab := (ByteArray.empty, ByteArray.empty)
/-- In the world w the slice (a, len, cap) has the labels L. -/
structure HasB (w : World) (a : Option Addr) (len cap : Nat) (L : List Lab) : Prop where
  hlen : L.length = len
  le : len ≤ cap
  capb : cap ≤ maxLen
  nil : a = none → cap = 0
  cells : 0 < len → ∃ b off, a = some ⟨b, off, none⟩ ∧ b < w.heap.size ∧ ∀ i, i < len → w.cell? ⟨b, off + i * 2, none⟩ = some (.string (L.getD i noLab).1) ∧ w.cell? ⟨b, off + i * 2 + 1, none⟩ = some (.string (L.getD i noLab).2)
theorem HasB.kept {w w' : World} {a : Option Addr} {len cap : Nat} {L : List Lab} {B : Nat} (h : HasB w a len cap L) (hb : Below B w w') (hB : w.heap.size ≤ B) : HasB w' a len cap L := by
  refine ⟨h.hlen, h.le, h.capb, h.nil, fun hp => ?_⟩
  obtain ⟨b, off, e1, e2, e3⟩ := h.cells hp
  refine ⟨b, off, e1, Nat.lt_of_lt_of_le e2 hb.size, fun i hi => ?_⟩
  exact ⟨(hb.cell (p := ⟨b, off + i * 2, none⟩) (Nat.lt_of_lt_of_le e2 hB)).trans (e3 i hi).1, (hb.cell (p := ⟨b, off + i * 2 + 1, none⟩) (Nat.lt_of_lt_of_le e2 hB)).trans (e3 i hi).2⟩
theorem hasB_nil (w : World) : HasB w none 0 0 [] := ⟨rfl, Nat.le_refl _, Nat.zero_le _, fun _ => rfl, fun h => by omega⟩

theorem guard39 : Try.prog.eqGuardType Try.prog.depth 38 = false := by kernel_rfl
theorem held39 : Try.prog.stoodInHeld 38 = false := by kernel_rfl
/-- Two labels, held against each other. -/
theorem run_neq39 (x0 x1 y0 y1 : Str) (w : World) : (binOp .neq 38 (.agg #[.string x0, .string x1]) (.agg #[.string y0, .string y1])).run Try.prog w = .ok (.bool (!decide ((x0, x1) = (y0, y1)))) w := by
  rw [run_neq_struct, run_equalIn_agg w 9999 38 _ _ Try.underlying38 held39]
  have hs : ∀ w, (sizeOf 9).run Try.prog w = .ok 1 w := fun w => by kernel_rfl
  have hu := Try.underlying9
  rw [show (Try.prog.fieldsOf 38).toList = _ from rfl]
  simp [Op.eqFields, go_sem]
  by_cases h0 : x0 = y0
  · by_cases h1 : x1 = y1
    · subst h0 h1; simp
    · have h1' : ¬ ByteArray.toList x1 = ByteArray.toList y1 := fun e => h1 ((str_ext _ _).1 e)
      subst h0; simp [h1, h1']
  · have h0' : ¬ ByteArray.toList x0 = ByteArray.toList y0 := fun e => h0 ((str_ext _ _).1 e)
    simp [h0, h0']
theorem same_step {ls ms : List Lab} {k : Nat} (h1 : k < ls.length) (h2 : k < ms.length) (h : ls.take k = ms.take k) (e : ls.getD k noLab = ms.getD k noLab) : ls.take (k + 1) = ms.take (k + 1) := by
  rw [List.take_add_one, List.take_add_one, h, List.getElem?_eq_getElem h1, List.getElem?_eq_getElem h2]
  have : ls[k] = ms[k] := by simpa [List.getD, List.getElem?_eq_getElem h1, List.getElem?_eq_getElem h2] using e
  rw [this]

set_option maxHeartbeats 1000000 in
theorem sameB_any (w : World) (a a' : Option Addr) (len len' cap cap' : Nat) (L M : List Lab) (h : HasB w a len cap L) (h' : HasB w a' len' cap' M) :
    Calls Try.prog 8 #[.slice a len cap, .slice a' len' cap'] w fun e w' => e = .returned (.bool (decide (L = M))) ∧ ∃ m, w' = w.drewN m := by
  have hl := h.hlen
  have hl' := h'.hlen
  have hcap := h.capb
  have hle := h.le
  unfold maxLen at hcap
  by_cases hll : len = len'
  · subst hll
    have hc := hide h.cells
    have hc' := hide h'.cells
    clear h h'
    go_enter Try.func8, Try.ntmps8
    go_wp2
    go_loopw [5] (fun i wr => ∃ k : Nat, k ≤ len ∧ i = .int .i64 k ∧ Hid (∃ m, wr = w.drewN m) ∧ Hid (L.take k = M.take k)) (fun i _ => len - (intOf i).toNat)
    case atStart => exact ⟨0, Nat.zero_le _, rfl, (⟨0, rfl⟩ : ∃ m, w = w.drewN m), (rfl : L.take 0 = M.take 0)⟩
    case round =>
      obtain ⟨k, hk, rfl, hwr, ht⟩ := hrel
      by_cases hkl : k < len
      · obtain ⟨b, off, rfl, _, hcl⟩ := hc.out (by omega)
        obtain ⟨b', off', rfl, _, hcl'⟩ := hc'.out (by omega)
        have i1 : (k : Int) < len := by omega
        have hhp : wr.heap = w.heap := by obtain ⟨m, e⟩ := hwr.out; rw [e]; rfl
        have c0 : wr.cell? ⟨b, off + k * 2, none⟩ = some (.string (L.getD k noLab).1) := (World.cell?_of_block (by rw [hhp])).trans (hcl k hkl).1
        have c1 : wr.cell? ⟨b, off + k * 2 + 1, none⟩ = some (.string (L.getD k noLab).2) := (World.cell?_of_block (by rw [hhp])).trans (hcl k hkl).2
        have d0 : wr.cell? ⟨b', off' + k * 2, none⟩ = some (.string (M.getD k noLab).1) := (World.cell?_of_block (by rw [hhp])).trans (hcl' k hkl).1
        have d1 : wr.cell? ⟨b', off' + k * 2 + 1, none⟩ = some (.string (M.getD k noLab).2) := (World.cell?_of_block (by rw [hhp])).trans (hcl' k hkl).2
        have hst := hide (fun e => same_step (ls := L) (ms := M) (k := k) (by omega) (by omega) ht.out e)
        have hne := hide (fun (e : L = M) => congrArg (fun l => l.getD k noLab) e)
        generalize L.getD k noLab = x at c0 c1 hst hne
        generalize M.getD k noLab = y at d0 d1 hst hne
        obtain ⟨x0, x1⟩ := x
        obtain ⟨y0, y1⟩ := y
        replace hhp := hide hhp
        clear hcl hcl'
        simp only at c0 c1 d0 d1
        have kg := guard39
        by_cases he : ((x0, x1) : Lab) = (y0, y1)
        · have kn : ∀ w, (binOp .neq 38 (.agg #[.string x0, .string x1]) (.agg #[.string y0, .string y1])).run Try.prog w = .ok (.bool false) w := fun w => by rw [run_neq39, decide_eq_true he]; rfl
          have hnew : Hid (L.take (k + 1) = M.take (k + 1)) := hst.out he
          clear he hst hne
          go_wp2_with fail
          go_quiet (fail)
          go_wp2_with fail
          go_roundw
          case rel => exact ⟨k + 1, by omega, by go_num, (by obtain ⟨m, e⟩ := hwr.out; exact ⟨m + nq, by rw [e, World.drewN_drewN]⟩ : ∃ m, wr.drewN nq = w.drewN m), hnew⟩
          case measure => simp [intOf]; omega
        · have kn : ∀ w, (binOp .neq 38 (.agg #[.string x0, .string x1]) (.agg #[.string y0, .string y1])).run Try.prog w = .ok (.bool true) w := fun w => by rw [run_neq39, decide_eq_false he]; rfl
          have hne2 : Hid (L ≠ M) := fun e => he (hne.out e)
          clear he hst hne
          go_wp2_with fail
          go_quiet (fail)
          go_wp2_with fail
          go_ret
          exact ⟨by rw [show decide (L = M) = false by simpa using hne2.out]; rfl, by obtain ⟨m, e⟩ := hwr.out; exact ⟨m + nq, by rw [e, World.drewN_drewN]⟩⟩
      · obtain rfl : k = len := by omega
        have he : Hid (L = M) := by
          have := ht.out
          rwa [List.take_of_length_le (by omega), List.take_of_length_le (by omega)] at this
        go_wp2
        go_ret
        exact ⟨by rw [show decide (L = M) = true by simpa using he.out]; rfl, hwr.out⟩
  · have hne : Hid (L ≠ M) := fun e => hll (by rw [← hl, ← hl', e])
    have hll' : ¬ ((len : Int) = (len' : Int)) := by omega
    clear h h'
    go_enter Try.func8, Try.ntmps8
    go_wp2
    go_ret
    exact ⟨by rw [show decide (L = M) = false by simpa using hne.out]; rfl, 0, rfl⟩
end Go.Proofs.Ytlmpndmceiihaaa
