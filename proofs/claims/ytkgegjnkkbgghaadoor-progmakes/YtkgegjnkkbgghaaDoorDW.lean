/-
  The chapter's example works.
-/
import Derived.Test.YtkgegjnkkbgghaaDoorDH
namespace Go.Proofs.YtkgegjnkkbgghaaDoor
open Go.RowKit Go.Shelf Go.Lib
set_option linter.unusedVariables false
set_option linter.unusedSimpArgs false

def lookW (s : ByteArray) (out : List UInt8) : Bool := match parseM s with
  | .ok t => decide ((prg t).n ≤ 2048) && (chkI ((prg t).put 0 0) == 0) && (txtI ((prg t).put 0 0) == out)
  | _ => false
def wx1 : ByteArray := ⟨#[97, 124, 98]⟩
def wx2 : ByteArray := ⟨#[97, 42]⟩
def out1 : List UInt8 := [115, 112, 108, 105, 116, 32, 49, 32, 50, 10, 98, 121, 116, 101, 32, 49, 32, 51, 10, 98, 121, 116, 101, 32, 49, 32, 51, 10, 101, 110, 100, 10]
def out2 : List UInt8 := [115, 112, 108, 105, 116, 32, 49, 32, 50, 10, 98, 121, 116, 101, 32, 49, 32, 48, 10, 101, 110, 100, 10]
theorem wex1 : lookW wx1 out1 = true := by decide +kernel
theorem wex2 : lookW wx2 out2 = true := by decide +kernel
/-- What is seen of a text whose program is known. -/
def SeenW (out : List UInt8) (w : World) (e : Ending) (w1 : World) : Prop := Below w.heap.size w w1 ∧ ∃ k s va vn vc mn mx, e = .returned (.tuple #[reV k s (.slice va vn vc) mn mx, .int .i64 0, .int .i64 0]) ∧
  Hid (∀ w2, Below w1.heap.size w1 w2 → Calls Tryd.prog 9 #[reV k s (.slice va vn vc) mn mx] w2 fun e w3 => Below w2.heap.size w2 w3 ∧ ∃ ad n c, e = .returned (.tuple #[.slice ad n c, .int .i64 0]) ∧
    Hid (∀ w4, Below w3.heap.size w3 w4 → Pw w4 → Calls Tryd.prog 15 #[.slice ad n c] w4 fun e w5 => e = .returned (.tuple #[.string ⟨out.toArray⟩, .int .i64 0]) ∧ Below w4.heap.size w4 w5))
theorem ParseP.seen {w w1 : World} {s : ByteArray} {e : Ending} {out : List UInt8} (h : ParseP w s e w1) (hs : s.size ≤ 256) (hl : lookW s out = true) : SeenW out w e w1 := by
  have hg := parse_good s
  unfold lookW at hl
  obtain ⟨b, ⟨h1, _⟩ | ⟨_, ⟨q, h2, _⟩ | ⟨x, t, h2, rfl, T⟩⟩⟩ := h
  · omega
  · rw [h2] at hl; cases hl
  · refine ⟨b, ?_⟩
    rw [h2] at hl hg
    simp only [Bool.and_eq_true, decide_eq_true_eq, beq_iff_eq] at hl hg
    obtain ⟨⟨l1, l2⟩, l3⟩ := hl
    obtain ⟨hf, hz, hd⟩ := hg
    obtain ⟨va, vn, vc, rfl⟩ := T.val
    refine ⟨_, _, va, vn, vc, _, _, rfl, fun w2 B2 => ?_⟩
    refine (make_ok t _ _ w2 (T.kept (fun k _ hk => B2.block k hk)) hf (by omega) (by omega)).mono ?_
    rintro e w3 ⟨B3, ⟨h3, _⟩ | ⟨_, v, rfl, R3, _⟩⟩
    · omega
    · refine ⟨B3, ?_⟩
      obtain ⟨ad, c, rfl, H3⟩ := R3.hs
      refine ⟨ad, _, c, rfl, fun w4 B4 hP => ?_⟩
      have H4 : HsI w4 (fun k => k < w4.heap.size) ad ((prg t).put 0 0) := H3.kept (fun k _ hk => B4.block k hk) (fun k hk _ => by have := B4.size; omega)
      refine (text_any ad c _ w4 hP H4).mono ?_
      rintro e w5 ⟨rfl, B5⟩
      refine ⟨?_, B5⟩
      unfold TextV
      rw [if_pos l2, l3]
set_option maxHeartbeats 8000000 in
set_option maxRecDepth 100000 in
theorem works_any (w : World) (hT : Tab w) (hP : Pw w) : Calls Tryd.prog 14 #[] w fun e w' => e = .returned (.bool true) ∧ Below w.heap.size w w' := by
  go_enter Tryd.func14, Tryd.ntmps14
  go_wp2_with fail
  refine (parse_any wx1 w hT).mono ?_
  rintro e w1 P1
  obtain ⟨B1, k1, s1, a1, n1, c1, mn1, mx1, rfl, M1⟩ := P1.seen (by decide) wex1
  clear P1
  have hT1 := hT.below B1
  have hP1 := hP.below B1
  have hs1 := B1.size
  have H := St.start Nope w1
  go_wp2_with (first | (with_reducible refine at_alloc 27 ?_; refine wl_alloc28 H ?_; clear H; intro g1 w' H q1 q2) | (with_reducible refine at_store 27 ?_; refine wl_store28 0 H rfl rfl rfl rfl ?_; clear H; intro w' H))
  refine (parse_any wx2 _ (hT1.st H (fun k hk h => h))).mono ?_
  rintro e w2 P2
  obtain ⟨B2, k2, s2, a2, n2, c2, mn2, mx2, rfl, M2⟩ := P2.seen (by decide) wex2
  clear P2
  replace H := H.call B2 (Nat.le_refl _)
  have F12 := H.below
  have hg1 := H.get 0 rfl
  have B02 := B1.trans (F12.mono hs1)
  have hP2 := hP1.below F12
  replace H : St Nope w2 w2 [(false, g1, 27, reA k1 s1 (.slice a1 n1 c1) mn1 mx1)] := ⟨But.refl _ _, fun x hx => (by rw [List.mem_singleton.1 hx]; exact hg1), fun x hx h => (by rw [List.mem_singleton.1 hx] at h; cases h), by simp⟩
  clear hg1 B2 q1 q2
  go_wp2_with (first | (with_reducible refine at_alloc 27 ?_; refine wl_alloc28 H ?_; clear H; intro g2 w' H q3 q4) | (with_reducible refine at_store 27 ?_; refine wl_store28 0 H rfl rfl rfl rfl ?_; clear H; intro w' H) | ((with_reducible refine at_load 27 ?_); refine wl_load28 1 H rfl rfl ?_))
  refine (M1.out _ (F12.trans (H.below.mono F12.size))).mono ?_
  rintro e w5 ⟨B5, ad1, m1, d1, rfl, X1⟩
  replace H := H.call B5 (Nat.le_refl _)
  have G5 := hide (fun w' (b : Below w2.heap.size w2 w') => b)
  go_wp2_with (first | ((with_reducible refine at_load 27 ?_); refine wl_load28 0 H rfl rfl ?_))
  refine (M2.out _ H.below).mono ?_
  rintro e w6 ⟨B6, ad2, m2, d2, rfl, X2⟩
  replace H := H.call B6 (Nat.le_refl _)
  go_wp2_with fail
  refine (X1.out _ B6 (hP2.below H.below)).mono ?_
  rintro e w7 ⟨rfl, B7⟩
  replace H := H.call B7 (Nat.le_refl _)
  go_wp2_with fail
  refine (X2.out _ B7 (hP2.below H.below)).mono ?_
  rintro e w8 ⟨rfl, B8⟩
  replace H := H.call B8 (Nat.le_refl _)
  have F8 := hide (B02.trans (H.below.mono B02.size))
  clear H
  go_wp2_with fail
  go_ret
  exact ⟨rfl, F8.out⟩
end Go.Proofs.YtkgegjnkkbgghaaDoor
