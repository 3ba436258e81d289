/-
  CompactFunc of three labels of which the last two have one name.
-/
import Derived.Test.YtlmpndmceiihaaaQ
namespace Go.Proofs.Ytlmpndmceiihaaa
open Go.RowKit Go.Shelf Go.Lib
set_option linter.unusedVariables false
set_option linter.unusedSimpArgs false

theorem zero39 : ∀ w, (zeroValue 38).run Try.prog w = .ok (.agg #[.string ByteArray.empty, .string ByteArray.empty]) w := fun w => by kernel_rfl
theorem run_clear1 (w : World) (b cap : Nat) (u v : Value) (q4 : w.cell? ⟨b, 4, none⟩ = some u) (q5 : w.cell? ⟨b, 5, none⟩ = some v) (g4 : w.frozen? ⟨b, 4, none⟩ = false) (g5 : w.frozen? ⟨b, 5, none⟩ = false) :
    (Builtin.clear_ #[23] 0 #[.slice (some ⟨b, 4, none⟩) 1 cap]).run Try.prog w = .ok (.tuple #[]) ((w.setCell ⟨b, 4, none⟩ (.string ByteArray.empty)).setCell ⟨b, 5, none⟩ (.string ByteArray.empty)) := by
  have hz := zero39
  have hu := Try.underlying23
  have e5 : (w.setCell ⟨b, 4, none⟩ (.string ByteArray.empty)).cell? ⟨b, 5, none⟩ = some v := by rw [World.cell?_setCell_other _ _ _ _ (by simp)]; exact q5
  have zc : (Builtin.zeroCells #[Value.string ByteArray.empty, Value.string ByteArray.empty] 1).toList = [Value.string ByteArray.empty, Value.string ByteArray.empty] := by kernel_rfl
  have f5 : (w.setCell ⟨b, 4, none⟩ (.string ByteArray.empty)).frozen? ⟨b, 5, none⟩ = false := by rw [World.frozen?_setCell]; exact g5
  simp [Builtin.clear_, run_underlying hu, hz, zc, storeCells, go_sem, q4, q5, g4, g5, e5, f5]
set_option maxHeartbeats 2000000 in
theorem compact_three (w : World) (b cap : Nat) (x y z : Lab) (hc : 3 ≤ cap) (hm : cap ≤ maxLen)
    (q0 : w.cell? ⟨b, 0, none⟩ = some (.string x.1)) (q1 : w.cell? ⟨b, 1, none⟩ = some (.string x.2)) (q2 : w.cell? ⟨b, 2, none⟩ = some (.string y.1)) (q3 : w.cell? ⟨b, 3, none⟩ = some (.string y.2)) (q4 : w.cell? ⟨b, 4, none⟩ = some (.string z.1)) (q5 : w.cell? ⟨b, 5, none⟩ = some (.string z.2))
    (f4 : w.frozen? ⟨b, 4, none⟩ = false) (f5 : w.frozen? ⟨b, 5, none⟩ = false) (hbl : b < w.heap.size) (hxy : y.1 ≠ x.1) (hyz : z.1 = y.1) :
    Calls Try.prog 34 #[.slice (some ⟨b, 0, none⟩) 3 cap, .func (.func 35) #[] #[]] w fun e w' => e = .returned (.slice (some ⟨b, 0, none⟩) 2 cap) ∧ HasB w' (some ⟨b, 0, none⟩) 2 cap [x, y] ∧ Below b w w' := by
  have w0 : IntKind.i64.wrap (0 : Int) = 0 := rfl
  have w1 : IntKind.i64.wrap (1 : Int) = 1 := rfl
  have hcc : ¬ cap = 2 := by omega
  unfold maxLen at hm
  have h1 := hide (fun W => sameName_any y x W)
  have h2 := hide (fun W => sameName_any z y W)
  simp only [decide_eq_false hxy] at h1
  simp only [decide_eq_true hyz] at h2
  obtain ⟨x0, x1⟩ := x
  obtain ⟨y0, y1⟩ := y
  obtain ⟨z0, z1⟩ := z
  simp only at q0 q1 q2 q3 q4 q5 h1 h2
  clear hxy hyz
  go_enter Try.func34, Try.ntmps34
  go_wp2
  go_loopw [5] (fun i wr => (i = .int .i64 1 ∧ Hid (Below w.heap.size w wr)) ∨ (i = .int .i64 2 ∧ Hid (Below w.heap.size w wr))) (fun i _ => 3 - (intOf i).toNat)
  case atStart => exact .inl ⟨rfl, Below.refl _ w⟩
  case round =>
    rcases hrel with ⟨rfl, hB⟩ | ⟨rfl, hB⟩
    · have hsz := hB.out.size
      have c0 : wr.drew.cell? ⟨b, 0, none⟩ = some (.string x0) := (hB.out.cell (p := ⟨b, 0, none⟩) hbl).trans q0
      have c1 : wr.drew.cell? ⟨b, 1, none⟩ = some (.string x1) := (hB.out.cell (p := ⟨b, 1, none⟩) hbl).trans q1
      have c2 : wr.drew.cell? ⟨b, 2, none⟩ = some (.string y0) := (hB.out.cell (p := ⟨b, 2, none⟩) hbl).trans q2
      have c3 : wr.drew.cell? ⟨b, 3, none⟩ = some (.string y1) := (hB.out.cell (p := ⟨b, 3, none⟩) hbl).trans q3
      clear q0 q1 q2 q3 q4 q5 f4 f5
      go_wp2_with fail
      go_region_held3 (fun w' => (w'.cell? ⟨b, 0, none⟩ = some (.string x0) ∧ w'.cell? ⟨b, 1, none⟩ = some (.string x1)) ∧ w'.cell? ⟨b, 2, none⟩ = some (.string y0) ∧ w'.cell? ⟨b, 3, none⟩ = some (.string y1)) (first | (exact ⟨⟨c0, c1⟩, c2, c3⟩) | (exact E3)) (first
        | (go_at_call 35; refine (h1.out _).mono ?_; rintro e W3 ⟨rfl, hW⟩
           have B3 : Below wr.heap.size wr W3 := by rw [hW]; exact (((Below.refl _ wr).drew).alloc (Nat.le_refl _) _).alloc (by simp) _
           have E3 := And.intro (And.intro ((B3.cell (p := ⟨b, 0, none⟩) (by show b < _; omega)).trans c0) ((B3.cell (p := ⟨b, 1, none⟩) (by show b < _; omega)).trans c1)) (And.intro ((B3.cell (p := ⟨b, 2, none⟩) (by show b < _; omega)).trans c2) ((B3.cell (p := ⟨b, 3, none⟩) (by show b < _; omega)).trans c3))
           clear hW))
      have T3 : Hid (Below w.heap.size w W3) := hB.out.trans (B3.mono hsz)
      clear E3 B3 c0 c1 c2 c3
      go_wp2_with fail
      go_roundw
      case rel => exact .inr ⟨rfl, T3⟩
      case measure => simp [intOf]
    · have hsz := hB.out.size
      have c2 : wr.drew.cell? ⟨b, 2, none⟩ = some (.string y0) := (hB.out.cell (p := ⟨b, 2, none⟩) hbl).trans q2
      have c3 : wr.drew.cell? ⟨b, 3, none⟩ = some (.string y1) := (hB.out.cell (p := ⟨b, 3, none⟩) hbl).trans q3
      have c4 : wr.drew.cell? ⟨b, 4, none⟩ = some (.string z0) := (hB.out.cell (p := ⟨b, 4, none⟩) hbl).trans q4
      have c5 : wr.drew.cell? ⟨b, 5, none⟩ = some (.string z1) := (hB.out.cell (p := ⟨b, 5, none⟩) hbl).trans q5
      have g4 : wr.drew.frozen? ⟨b, 4, none⟩ = false := (hB.out.frozen (p := ⟨b, 4, none⟩) hbl).trans f4
      have g5 : wr.drew.frozen? ⟨b, 5, none⟩ = false := (hB.out.frozen (p := ⟨b, 5, none⟩) hbl).trans f5
      have hq := hide (And.intro (And.intro ((hB.out.cell (p := ⟨b, 0, none⟩) hbl).trans q0) ((hB.out.cell (p := ⟨b, 1, none⟩) hbl).trans q1)) (And.intro ((hB.out.cell (p := ⟨b, 2, none⟩) hbl).trans q2) ((hB.out.cell (p := ⟨b, 3, none⟩) hbl).trans q3)))
      clear q0 q1 q2 q3 q4 q5 f4 f5
      go_wp2_with fail
      go_region_held3 (fun w' => (w'.cell? ⟨b, 4, none⟩ = some (.string z0) ∧ w'.cell? ⟨b, 5, none⟩ = some (.string z1)) ∧ w'.cell? ⟨b, 2, none⟩ = some (.string y0) ∧ w'.cell? ⟨b, 3, none⟩ = some (.string y1)) (first | (exact ⟨⟨c4, c5⟩, c2, c3⟩) | (exact E3)) (first
        | (go_at_call 35; refine (h2.out _).mono ?_; rintro e W3 ⟨rfl, hW⟩
           have B3 : Below wr.heap.size wr W3 := by rw [hW]; exact (((Below.refl _ wr).drew).alloc (Nat.le_refl _) _).alloc (by simp) _
           have E3 := And.intro (And.intro ((B3.cell (p := ⟨b, 4, none⟩) (by show b < _; omega)).trans c4) ((B3.cell (p := ⟨b, 5, none⟩) (by show b < _; omega)).trans c5)) (And.intro ((B3.cell (p := ⟨b, 2, none⟩) (by show b < _; omega)).trans c2) ((B3.cell (p := ⟨b, 3, none⟩) (by show b < _; omega)).trans c3))
           clear hW))
      have q0 : W3.cell? ⟨b, 0, none⟩ = some (.string x0) := (B3.cell (p := ⟨b, 0, none⟩) (by show b < _; omega)).trans hq.out.1.1
      have q1 : W3.cell? ⟨b, 1, none⟩ = some (.string x1) := (B3.cell (p := ⟨b, 1, none⟩) (by show b < _; omega)).trans hq.out.1.2
      have q4 := E3.1.1
      have q5 := E3.1.2
      have q2 := E3.2.1
      have q3 := E3.2.2
      have g4 : W3.frozen? ⟨b, 4, none⟩ = false := (B3.frozen (p := ⟨b, 4, none⟩) (by show b < _; omega)).trans g4
      have g5 : W3.frozen? ⟨b, 5, none⟩ = false := (B3.frozen (p := ⟨b, 5, none⟩) (by show b < _; omega)).trans g5
      have T3 : Hid (Below w.heap.size w W3) := hB.out.trans (B3.mono hsz)
      replace q0 := hide q0
      replace q1 := hide q1
      replace q2 := hide q2
      replace q3 := hide q3
      clear E3 B3 c2 c3 c4 c5 hq
      go_wp2_with fail
      go_loopw [5, 7] (fun k k2 wr => k = .int .i64 2 ∧ k2 = .int .i64 1 ∧ wr = W3) (fun _ _ _ => 0)
      case atStart => exact ⟨rfl, rfl, rfl⟩
      case round =>
        obtain ⟨rfl, rfl, rfl⟩ := hrel
        have hclr := run_clear1 wr b (cap - 2) _ _ q4 q5 g4 g5
        go_wp2_with fail
        go_ret
        have s2 : ∀ i, i < 4 → ((wr.setCell ⟨b, 4, none⟩ (.string ByteArray.empty)).setCell ⟨b, 5, none⟩ (.string ByteArray.empty)).cell? ⟨b, i, none⟩ = wr.cell? ⟨b, i, none⟩ := fun i hi => by
          rw [World.cell?_setCell_other _ _ _ _ (fun e => by have := congrArg Addr.off e; simp at this; omega), World.cell?_setCell_other _ _ _ _ (fun e => by have := congrArg Addr.off e; simp at this; omega)]
        refine ⟨rfl, ⟨rfl, by omega, by unfold maxLen; omega, (fun e => nomatch e), (fun _ => ⟨b, 0, rfl, ?_, fun i hi => ?_⟩)⟩, ?_⟩
        · have := T3.out.size
          simp only [World.size_setCell]
          omega
        · rcases (show i = 0 ∨ i = 1 by omega) with rfl | rfl
          · exact ⟨(s2 0 (by omega)).trans q0.out, (s2 1 (by omega)).trans q1.out⟩
          · exact ⟨(s2 2 (by omega)).trans q2.out, (s2 3 (by omega)).trans q3.out⟩
        · exact ((T3.out.mono (Nat.le_of_lt hbl)).setCell (Nat.le_refl _) _).setCell (Nat.le_refl _) _
end Go.Proofs.Ytlmpndmceiihaaa
