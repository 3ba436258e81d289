/-
  Literal of what a quoted text is read as.
-/
import Derived.Test.YtnbhpojcckhlmaaDoorQF
import Derived.Test.YtnbhpojcckhlmaaDoorReadsW
namespace Go.Proofs.YtnbhpojcckhlmaaDoor
open Go.RowKit Go.Shelf Go.Lib
set_option linter.unusedVariables false
set_option linter.unusedSimpArgs false

theorem tog_lvs (l : List UInt8) : (∃ c, l = [c] ∧ tog 2 (lvs l) = (⟨1, sg c, 0, 0⟩, .nil)) ∨ tog 2 (lvs l) = (⟨2, noSet, 0, 0⟩, lvs l) := by
  match l with
  | [] => exact .inr rfl
  | [c] => exact .inl ⟨c, rfl, rfl⟩
  | c :: d :: l => exact .inr rfl
theorem length_tree (l : List UInt8) (hl : l.length ≤ 256) (P : Nat → Prop) (x : Value) (w : World) (T : TrV w P x (tog 2 (lvs l))) : Calls Tryd.prog 21 #[x] w fun e w' => e = .returned (.int .i64 (l.length : Int)) ∧ Below w.heap.size w w' := by
  rcases tog_lvs l with ⟨c, rfl, h⟩ | h
  · rw [h] at T
    obtain ⟨v, zs, rfl, ho, hp, hk⟩ := T
    obtain ⟨va, vc, rfl, _, _⟩ := owns8_val ho
    exact length_leaf _ _ _ _
  · rw [h] at T
    obtain ⟨v, zs, rfl, ho, hp, hk⟩ := T
    obtain ⟨a, cap, rfl, hL⟩ := lv_of ho hk
    exact length_row a cap l hl w hL
theorem text_tree (l : List UInt8) (hl : l.length ≤ 256) (P : Nat → Prop) (x : Value) (w : World) (hT : Tab w) (T : TrV w P x (tog 2 (lvs l))) : Calls Tryd.prog 22 #[x] w fun e w' => e = .returned (.string ⟨l.toArray⟩) ∧ Below w.heap.size w w' := by
  rcases tog_lvs l with ⟨c, rfl, h⟩ | h
  · rw [h] at T
    obtain ⟨v, zs, rfl, ho, hp, hk⟩ := T
    obtain ⟨va, vc, rfl, _, _⟩ := owns8_val ho
    exact text_leaf c _ _ _ hT
  · rw [h] at T
    obtain ⟨v, zs, rfl, ho, hp, hk⟩ := T
    obtain ⟨a, cap, rfl, hL⟩ := lv_of ho hk
    exact text_row a cap l hl w hT hL
theorem exact_tree (l : List UInt8) (P : Nat → Prop) (x : Value) (w : World) (hT : Tab w) (T : TrV w P x (tog 2 (lvs l))) (hsz : szT (tog 2 (lvs l)) ≤ 4096) : Calls Tryd.prog 20 #[x] w fun e w' => e = .returned (.bool true) ∧ Below w.heap.size w w' := by
  refine exact_any _ P x w hT T ?_ ?_ hsz
  · rcases tog_lvs l with ⟨c, rfl, h⟩ | h
    · rw [h]; exact ⟨.inl ⟨rfl, c, rfl⟩, rfl, rfl⟩
    · rw [h]; exact ⟨.inr ⟨rfl, rfl⟩, rfl, rfl⟩
  · rcases tog_lvs l with ⟨c, rfl, h⟩ | h
    · rw [h]; exact trivial
    · rw [h]; exact allE l 2
set_option maxHeartbeats 4000000 in
theorem literal_any (l : List UInt8) (hl : l.length ≤ 256) (P : Nat → Prop) (x : Value) (w : World) (hT : Tab w) (T : TrV w P x (tog 2 (lvs l))) (hf : fitT (tog 2 (lvs l))) (hsz : szT (tog 2 (lvs l)) ≤ 4096) (hdp : dpT (tog 2 (lvs l)) ≤ 128) :
    Calls Tryd.prog 9 #[x] w fun e w' => e = .returned (.tuple #[.string ⟨l.toArray⟩, .bool true]) ∧ Below w.heap.size w w' := by
  have H := St.start Nope w
  have CK := hide (fun w' (B : Below w.heap.size w w') => check_any _ P x w' (T.kept (fun b _ hb => B.block b hb)) hf hsz hdp)
  have EX := hide (fun w' (B : Below w.heap.size w w') => exact_tree l P x w' (hT.below B) (T.kept (fun b _ hb => B.block b hb)) hsz)
  have LN := hide (fun w' (B : Below w.heap.size w w') => length_tree l hl P x w' (T.kept (fun b _ hb => B.block b hb)))
  have TX := hide (fun w' (B : Below w.heap.size w w') => text_tree l hl P x w' (hT.below B) (T.kept (fun b _ hb => B.block b hb)))
  obtain ⟨v, zs, rfl, _⟩ := T
  have i1 : ¬ (65536 : Int) < (l.length : Int) := by omega
  obtain ⟨n, hn⟩ : ∃ n, l.length = n := ⟨_, rfl⟩
  rw [hn] at i1 LN
  replace hn := hide hn
  clear hf hsz hdp hT
  generalize tog 2 (lvs l) = t at *
  obtain ⟨⟨tk, ts, tn, tm⟩, tf⟩ := t
  simp only at *
  go_enter Tryd.func9, Tryd.ntmps9
  go_wp2_with (first | ((with_reducible refine at_box 28 ?_); refine wl_box28 H rfl ?_; clear H; intro g w1 H q1 q2) | ((with_reducible refine at_load 28 ?_); refine wl_load28 0 H rfl rfl ?_))
  refine (CK.out _ H.below).mono ?_
  rintro e w2 ⟨rfl, B2⟩
  replace H := H.call B2 (Nat.le_refl _)
  clear B2
  go_wp2_with (first | ((with_reducible refine at_loadG 28 ?_); refine wl_loadG28 0 H rfl rfl rfl ?_))
  refine (EX.out _ H.below).mono ?_
  rintro e w3 ⟨rfl, B3⟩
  replace H := H.call B3 (Nat.le_refl _)
  clear B3
  go_wp2_with (first | ((with_reducible refine at_loadG 28 ?_); refine wl_loadG28 0 H rfl rfl rfl ?_))
  refine (LN.out _ H.below).mono ?_
  rintro e w4 ⟨rfl, B4⟩
  replace H := H.call B4 (Nat.le_refl _)
  clear B4
  go_wp2_with (first | ((with_reducible refine at_load 28 ?_); refine wl_load28 0 H rfl rfl ?_))
  refine (TX.out _ H.below).mono ?_
  rintro e w5 ⟨rfl, B5⟩
  replace H := H.call B5 (Nat.le_refl _)
  clear B5
  go_wp2_with fail
  go_ret2
  exact ⟨rfl, H.below⟩
end Go.Proofs.YtnbhpojcckhlmaaDoor
