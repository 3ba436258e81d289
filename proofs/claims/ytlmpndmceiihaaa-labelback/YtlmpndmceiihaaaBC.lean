/-
  slices.Grow of nothing; slices.Concat of two rows of bytes.
-/
import Derived.Test.YtlmpndmceiihaaaBB
import Derived.Shelf.Spec.SlicesGrow
namespace Go.Proofs.Ytlmpndmceiihaaa
open Go.RowKit Go.Shelf Go.Lib
set_option linter.unusedVariables false
set_option linter.unusedSimpArgs false

shelf_lay_g Lays8.n4 Nm8 4 at Try 26 as Try.growB
theorem info_parts5 : ∃ i, Try.prog.info? 5 = some i ∧ i.zero = some (.int .u8 0) ∧ i.size = 1 ∧ i.bytes = 1 := by
  have h := V.info5
  cases hi : Try.prog.info? 5 with
  | none => rw [hi] at h; cases h
  | some i =>
    rw [hi] at h
    simp only [Option.map_some, Option.some.injEq, Prod.mk.injEq] at h
    exact ⟨i, rfl, h.1, h.2.1, h.2.2⟩
theorem grow_nil (w : World) (n : Nat) (h1 : 1 ≤ n) (h2 : n ≤ 1099511627776) :
    Calls Try.prog 26 #[.slice none 0 0, .int .i64 (n : Int)] w fun e w' => ∃ v, e = .returned v ∧ w'.ownsRow w.heap.size 5 1 v 0 (([] : List Int).map (Value.int .u8)) ∧ Below w.heap.size w w' := by
  obtain ⟨i0, hi, hz, hs, hb⟩ := info_parts5
  have := Any8.slices_Grow_grow Try.growB i0 (.int .u8 0) hi hz (by omega) none 0 0 n [] w (Nat.le_refl _) (by omega) (by rw [hb]; omega) (by omega) (by simp) (fun _ => rfl) (fun a e => nomatch e)
  refine this.mono ?_
  rintro e w' ⟨rfl, rfl⟩
  refine ⟨_, rfl, ⟨by simp, .inr ⟨w.heap.size, _, _, rfl, Nat.le_refl _, heap_alloc_new w.drew _, Nat.zero_le _, ?_, ?_, by simp⟩⟩, ((Below.refl _ w).drew).alloc (Nat.le_refl _) _⟩
  · exact grownCap_le_maxLen w _ _ _ (by unfold maxLen; omega)
  · have hge := grownCap_ge w (0 + n) 0 (Try.growB_ren.t 25)
    simp only [Array.size_append, size_zeroCells, List.size_toArray, List.length_nil, show (Value.int IntKind.u8 0).cells.size = 1 from rfl]
    omega

set_option maxHeartbeats 4000000 in
theorem concat_two (w : World) (g : Nat) (a1 a2 : Option Addr) (n1 n2 c1 c2 : Nat) (l1 l2 : List Int) (h1 : V.Has w a1 n1 c1 l1) (h2 : V.Has w a2 n2 c2 l2) (q0 : w.cell? ⟨g, 0, none⟩ = some (.slice a1 n1 c1)) (q1 : w.cell? ⟨g, 1, none⟩ = some (.slice a2 n2 c2)) (hg : g < w.heap.size) (hb1 : n1 ≤ 1000000) (hb2 : n2 ≤ 1000000) (hp : 1 ≤ n2) :
    Calls Try.prog 16 #[.slice (some ⟨g, 0, none⟩) 2 2] w fun e w' => ∃ a' n' c', e = .returned (.slice a' n' c') ∧ V.Has w' a' n' c' (l1 ++ l2) ∧ Below w.heap.size w w' := by
  replace h1 := hide h1
  replace h2 := hide h2
  obtain ⟨s, hs⟩ : ∃ s, n1 + n2 = s := ⟨_, rfl⟩
  have es : (n1 : Int) + (n2 : Int) = (s : Int) := by omega
  have hsb : s ≤ 2000000 := by omega
  have hs1 : 1 ≤ s := by omega
  go_enter Try.func16, Try.ntmps16
  go_wp2_with fail
  go_loopw [3, 11] (fun ss ii wr => wr = w ∧ ((ii = .int .i64 0 ∧ ss = .int .i64 0) ∨ (ii = .int .i64 1 ∧ ss = .int .i64 (n1 : Int)) ∨ (ii = .int .i64 2 ∧ ss = .int .i64 (s : Int)))) (fun _ ii _ => 2 - (intOf ii).toNat)
  case atStart => exact ⟨rfl, .inl ⟨rfl, rfl⟩⟩
  case round =>
    obtain ⟨hw, hrel⟩ := hrel
    replace hw := hw.symm
    subst hw
    rcases hrel with ⟨rfl, rfl⟩ | ⟨rfl, rfl⟩ | ⟨rfl, rfl⟩
    · go_wp2_with fail
      go_roundw
      case rel => exact ⟨by trivial, .inr (.inl ⟨rfl, rfl⟩)⟩
      case measure => simp [intOf]
    · go_wp2_with fail
      go_roundw
      case rel => exact ⟨by trivial, .inr (.inr ⟨rfl, rfl⟩)⟩
      case measure => simp [intOf]
    · have GR := hide (grow_nil w s hs1 (by omega))
      go_wp2_with fail
      refine GR.out.mono ?_
      rintro e W1 ⟨v1, rfl, O1, B1⟩
      clear GR
      replace O1 := hide O1
      replace B1 := hide B1
      replace q0 := hide q0
      replace q1 := hide q1
      go_wp2_with fail
      go_loopw [6, 27] (fun vv ii wr2 => Hid (Below w.heap.size w wr2) ∧ ((ii = .int .i64 0 ∧ Hid (wr2.ownsRow w.heap.size 5 1 vv 0 (([] : List Int).map (Value.int .u8)))) ∨ (ii = .int .i64 1 ∧ Hid (wr2.ownsRow w.heap.size 5 1 vv n1 (l1.map (Value.int .u8)))) ∨ (ii = .int .i64 2 ∧ Hid (wr2.ownsRow w.heap.size 5 1 vv s ((l1 ++ l2).map (Value.int .u8)))))) (fun _ ii _ => 2 - (intOf ii).toNat)
      case atStart => exact ⟨B1, .inl ⟨rfl, O1⟩⟩
      case round =>
        clear B1 O1
        obtain ⟨B2, hrel⟩ := hrel
        rcases hrel with ⟨rfl, O2⟩ | ⟨rfl, O2⟩ | ⟨rfl, O2⟩
        · have c0 : wr.cell? ⟨g, 0, none⟩ = some (.slice a1 n1 c1) := (B2.out.cell (p := ⟨g, 0, none⟩) hg).trans q0.out
          have H1 := hide (h1.out.kept B2.out (Nat.le_refl _))
          go_wp2_with (first
            | (at_builtin; refine V.wpList_app rfl (.tmp 31) (.tmp 32) rfl w.heap.size _ 0 [] rfl O2.out a1 n1 c1 l1 rfl H1.out (by omega) B2.out.size ?_
               intro v3 W3 O3 G3
               have B3 := hide (B2.out.grown G3 B2.out.size (fun q e => (O2.out.lt q e).1))
               rw [Nat.zero_add, List.nil_append] at O3
               replace O3 := hide O3
               clear G3))
          go_roundw
          case rel => exact ⟨B3, .inr (.inl ⟨rfl, O3⟩)⟩
          case measure => simp [intOf]
        · have c0 : wr.cell? ⟨g, 1, none⟩ = some (.slice a2 n2 c2) := (B2.out.cell (p := ⟨g, 1, none⟩) hg).trans q1.out
          have H1 := hide (h2.out.kept B2.out (Nat.le_refl _))
          have hs' := hide hs
          clear hs
          go_wp2_with (first
            | (at_builtin; refine V.wpList_app rfl (.tmp 31) (.tmp 32) rfl w.heap.size _ n1 l1 rfl O2.out a2 n2 c2 l2 rfl H1.out (by omega) B2.out.size ?_
               intro v3 W3 O3 G3
               have B3 := hide (B2.out.grown G3 B2.out.size (fun q e => (O2.out.lt q e).1))
               rw [hs'.out] at O3
               replace O3 := hide O3
               clear G3))
          go_roundw
          case rel => exact ⟨B3, .inr (.inr ⟨rfl, O3⟩)⟩
          case measure => simp [intOf]
        · obtain ⟨a5, c5, e5, H5⟩ := V.has_of_owns O2.out (fun x hx => by
            rcases List.mem_append.1 hx with h | h
            · exact h1.out.bytes x h
            · exact h2.out.bytes x h)
          subst e5
          replace H5 := hide H5
          go_wp2_with fail
          go_ret
          exact ⟨a5, _, c5, rfl, H5.out, B2.out⟩
end Go.Proofs.Ytlmpndmceiihaaa
