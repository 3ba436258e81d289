/-
  The chapter's example; a chunk that is read has, put again, just those bytes.
-/
import Derived.Test.YtmjjedbdedemcaaGreatDoorTN
namespace Go.Proofs.YtmjjedbdedemcaaGreatDoor
open Go.RowKit
set_option linter.unusedVariables false
set_option linter.unusedSimpArgs false

def exS : List Sm := [(10, 5), (20, 5)]
theorem ex_fit : Fit exS := ⟨⟨⟨⟨by decide, by decide, .inl rfl⟩, by decide⟩, ⟨⟨by decide, by decide, .inr (by decide)⟩, by decide⟩, trivial⟩, by decide, by decide⟩
theorem ex_len {c : List Int} (h : IsC exS c) : c.length = 21 ∧ c.getD 0 0 = 2 ∧ c.getD 1 0 = 15 := by
  obtain ⟨B, hB, rfl⟩ := h
  have hN : eN z0 exS = 120 := by decide +kernel
  have h1 := hB.lo
  have h2 := hB.hi
  have hl : B.length = 15 := by omega
  have e2 : enc exS.length = [2] := by decide +kernel
  have e15 : enc B.length = [15] := by rw [hl]; decide +kernel
  have hlen := chunkB_len exS.length B
  rw [e2, e15, hl] at hlen
  refine ⟨hlen, ?_, ?_⟩ <;> (unfold chunkB; rw [e2, e15]; simp)
theorem map_getD (ss : List Sm) (i : Nat) (hi : i < ss.length) : (ss.map up).getD i noSmp = up (ss.getD i (0, 0)) := by
  simp [List.getD, List.getElem?_map, List.getElem?_eq_getElem hi]
/-- Put of samples that may be a chunk. -/
theorem cPut_ok (w : World) (a : Option Addr) (len cap : Nat) (ss : List Sm) (h : HasS w a len cap (ss.map up)) (hT : Tabs w) (hf : Fit ss) :
    Calls Tryz.prog 6 #[.slice a len cap] w fun e w' => ∃ c a' n cap', IsC ss c ∧ e = .returned (.tuple #[.slice a' n cap', .int .i64 0]) ∧ Has w' a' n cap' c ∧ Below w.heap.size w w' := by
  have hl : ss.length = len := by have := h.hlen; simpa using this
  refine (cPut_any w a len cap _ h hT (by have := hf.hi; omega) ss (by omega) (fun i hi => map_getD ss i hi) hf.ok (fun h => by omega)).mono ?_
  rintro e w' ⟨⟨_, _, c, a', n, cap', hc, rfl, H⟩ | ⟨h0, _⟩ | ⟨h0, _⟩, B⟩
  · exact ⟨c, a', n, cap', hc, rfl, H, B⟩
  · have := hf.lo; omega
  · omega
/-- Read of bytes that have a chunk. -/
theorem cRead_ok (w : World) (a : Option Addr) (len cap : Nat) (l : List Int) (t : Nat) (h : Has w a len cap l) (hT : Tabs w) (hb : len ≤ 1099511627776) (ht : t ≤ len) {ss : List Sm} {c : Nat} (hr : rdc l t = some (ss, c)) :
    Calls Tryz.prog 15 #[.slice a len cap, .int .i64 (t : Int)] w fun e w' => ∃ ad cap', e = .returned (.tuple #[.slice ad ss.length cap', .int .i64 (c : Int), .int .i64 0]) ∧ HasS w' ad ss.length cap' (ss.map up) ∧ Below w.heap.size w w' := by
  refine (cRead_any w a len cap l t h hT hb ht).mono ?_
  rintro e w' ⟨⟨ss', c', ad, cap', h1, rfl, H⟩ | ⟨h1, _⟩, B⟩
  · rw [hr] at h1; simp only [Option.some.injEq, Prod.mk.injEq] at h1; obtain ⟨rfl, rfl⟩ := h1; exact ⟨ad, cap', rfl, H, B⟩
  · rw [hr] at h1; cases h1
theorem cRead_no (w : World) (a : Option Addr) (len cap : Nat) (l : List Int) (t : Nat) (h : Has w a len cap l) (hT : Tabs w) (hb : len ≤ 1099511627776) (ht : t ≤ len) (hr : rdc l t = none) :
    Calls Tryz.prog 15 #[.slice a len cap, .int .i64 (t : Int)] w fun e w' => ∃ er : Int, er ≠ 0 ∧ e = .returned (.tuple #[.slice none 0 0, .int .i64 0, .int .i64 er]) ∧ Below w.heap.size w w' := by
  refine (cRead_any w a len cap l t h hT hb ht).mono ?_
  rintro e w' ⟨⟨ss', c', ad, cap', h1, _⟩ | ⟨_, er, her, rfl⟩, B⟩
  · rw [hr] at h1; cases h1
  · exact ⟨er, her, rfl, B⟩
theorem hasS_four (w : World) : HasS (w.alloc (.cells #[.int .i64 10, .int .u64 5, .int .i64 20, .int .u64 5] 33)) (some ⟨w.heap.size, 0, none⟩) 2 2 (exS.map up) := by
  have X := Bx.new w 33 #[.int .i64 10, .int .u64 5, .int .i64 20, .int .u64 5]
  refine ⟨rfl, Nat.le_refl _, by unfold maxLen; omega, (fun h => by cases h), fun _ => ⟨w.heap.size, 0, rfl, X.lt, fun i hi => ?_⟩, fun s hs => ?_⟩
  · match i, hi with
    | 0, _ => exact ⟨X.cell 0, X.cell 1⟩
    | 1, _ => exact ⟨X.cell 2, X.cell 3⟩
  · exact okL_vb exS z0 ex_fit.ok s hs
set_option maxHeartbeats 2000000 in
set_option maxRecDepth 100000 in
theorem works_any (w : World) (hT : Tabs w) : Calls Tryz.prog 13 #[] w fun e w' => e = .returned (.bool true) ∧ Below w.heap.size w w' := by
  have B0 : Hid (Below w.heap.size w (w.alloc (.cells #[.int .i64 10, .int .u64 5, .int .i64 20, .int .u64 5] 33))) := (Below.refl _ w).alloc (Nat.le_refl _) _
  have P := hide (cPut_ok _ _ 2 2 exS (hasS_four w) (hT.below B0.out) ex_fit)
  have hT1 := hide (hT.below B0.out)
  clear hT
  go_enter Tryz.func13, Tryz.ntmps13
  go_wp2_with fail
  refine P.out.mono ?_
  rintro e w2 ⟨c, a2, n2, c2, hc, rfl, H2, b2⟩
  obtain ⟨h21, h0, h1⟩ := ex_len hc
  have hn2 : n2 = 21 := by rw [← H2.hlen, h21]
  subst hn2
  have hr := rdc_of hc ex_fit [] []
  simp only [List.nil_append, List.append_nil, List.length_nil, Nat.zero_add, h21] at hr
  have R := cRead_ok w2 a2 21 c2 c 0 H2 (hT1.out.below b2) (by omega) (by omega) hr
  simp only [show ((0 : Nat) : Int) = 0 from rfl, show ((21 : Nat) : Int) = 21 from rfl, show exS.length = 2 from rfl] at R
  replace R := hide R
  have B2 := hide (B0.out.trans (b2.mono B0.out.size))
  replace hr := hide hr
  replace hc := hide hc
  replace H2 := hide H2
  replace h21 := hide h21
  clear P b2 B0
  go_wp2_with fail
  refine R.out.mono ?_
  rintro e w3 ⟨ad, c3, rfl, H3, b3⟩
  have B3 := hide (B2.out.trans (b3.mono B2.out.size))
  obtain ⟨bk, off, rfl, hb, hcs⟩ := (H2.out.kept b3 (Nat.le_refl _)).cells (by omega)
  have d0 := hcs 0 (by omega)
  have d1 := hcs 1 (by omega)
  rw [h0] at d0
  rw [h1] at d1
  obtain ⟨bs, os, rfl, hb2, hcs2⟩ := H3.cells (by omega)
  obtain ⟨s0, s1⟩ := hcs2 1 (by omega)
  simp only [show (exS.map up).getD 1 noSmp = (20, 5) from rfl, show ((5 : Nat) : Int) = 5 from rfl] at s0 s1
  simp only [Nat.add_zero] at d0
  simp only [Nat.one_mul] at s0 s1
  have s2 : w3.cell? ⟨bs, os + 3, none⟩ = some (.int .u64 5) := s1
  have hcap2 := H2.out.le
  have hcap3 := H3.le
  have kq : ∀ w, (binOp .eql 33 (.agg #[.int .i64 20, .int .u64 5]) (.agg #[.int .i64 20, .int .u64 5])).run Tryz.prog w = .ok (.bool true) w := fun w => by rw [run_eqlS]; rfl
  have kg := guardS
  clear R hcs hcs2 H3 b3 B2 hb hb2 h0 h1
  go_wp2_with fail
  go_ret
  exact ⟨rfl, B3.out⟩
end Go.Proofs.YtmjjedbdedemcaaGreatDoor
