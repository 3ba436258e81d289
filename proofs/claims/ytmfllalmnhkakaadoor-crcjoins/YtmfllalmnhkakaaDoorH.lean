/-
  The walks of the reference's Open, of what was sealed opened, and of works.
-/
import Derived.Test.YtmfllalmnhkakaaDoorG
import Derived.Lib.SlBytesConst
namespace Go.Proofs.YtmfllalmnhkakaaDoor
open Go.RowKit
set_option linter.unusedVariables false

set_option maxHeartbeats 1000000 in
theorem ropen_short (w : World) (a : Option Addr) (len cap : Nat) (l : List Int) (h : Has w a len cap l) (h4 : len < 4) :
    Calls Tryd.prog 19 #[.slice a len cap] w (None2 w) := by
  have h4' : (len : Int) < 4 := by omega
  have hle := h.le
  have hcap := h.capb
  unfold maxLen at hcap
  go_enter Tryd.func19, Tryd.ntmps19
  go_wp2
  go_ret2
  exact ⟨rfl, Below.refl _ _⟩

set_option maxHeartbeats 1000000 in
theorem ropen_not (w : World) (a : Option Addr) (len cap : Nat) (l : List Int) (h : Has w a len cap l) (n : Nat) (hn : len = n + 4) (he : numK (l.drop n) 4 ≠ more 0 (l.take n)) :
    Calls Tryd.prog 19 #[.slice a len cap] w (None2 w) := by
  subst hn
  obtain ⟨b, off, rfl, hb, hc⟩ := h.cells (by omega)
  have hle := h.le
  have hcap := h.capb
  unfold maxLen at hcap
  have hr := rread_any w _ _ _ _ (h.cut n (by omega)) (by omega)
  simp only [Option.map_some, add_plain, Nat.add_sub_cancel_left] at hr
  have hr := hide hr
  have hs : Hid (∀ w1, Below w.heap.size w w1 → Calls Tryd.prog 11 #[.slice (some ⟨b, off, none⟩) n cap] w1 fun e w' => e = .returned (.int .u32 (more 0 (l.take n) : Nat)) ∧ w' = w1) := fun w1 B1 => rsum_any _ n cap _ w1 ((h.front n (by omega)).kept B1 (Nat.le_refl _))
  have q : (((numK (l.drop n) 4 : Nat) : Int) != ((more 0 (l.take n) : Nat) : Int)) = true := by rw [bne_iff_ne]; omega
  clear hc
  generalize numK (l.drop n) 4 = x at *
  generalize more 0 (l.take n) = y at *
  go_enter Tryd.func19, Tryd.ntmps19
  go_wp2_with fail
  refine hr.out.mono ?_
  rintro e w1 ⟨rfl, B1⟩
  go_wp2_with fail
  refine (hs.out _ B1).mono ?_
  rintro e w2 ⟨rfl, rfl⟩
  go_wp2
  go_ret2
  exact ⟨rfl, B1⟩

set_option maxHeartbeats 1000000 in
theorem ropen_any (w : World) (a : Option Addr) (len cap : Nat) (l : List Int) (h : Has w a len cap l) (hb : len ≤ 1099511627776) (n : Nat) (hn : len = n + 4) (he : numK (l.drop n) 4 = more 0 (l.take n)) :
    Calls Tryd.prog 19 #[.slice a len cap] w (Some2 w (l.take n)) := by
  subst hn
  obtain ⟨b, off, rfl, hb, hc⟩ := h.cells (by omega)
  have hle := h.le
  have hcap := h.capb
  unfold maxLen at hcap
  have hr := rread_any w _ _ _ _ (h.cut n (by omega)) (by omega)
  simp only [Option.map_some, add_plain, Nat.add_sub_cancel_left] at hr
  rw [he] at hr
  have hr := hide hr
  have hs : Hid (∀ w1, Below w.heap.size w w1 → Calls Tryd.prog 11 #[.slice (some ⟨b, off, none⟩) n cap] w1 fun e w' => e = .returned (.int .u32 (more 0 (l.take n) : Nat)) ∧ w' = w1) := fun w1 B1 => rsum_any _ n cap _ w1 ((h.front n (by omega)).kept B1 (Nat.le_refl _))
  have hl := hide (take_bytes h.bytes n)
  have hf := hide (h.front n (by omega))
  clear hc he
  generalize more 0 (l.take n) = y at *
  go_enter Tryd.func19, Tryd.ntmps19
  go_wp2_with fail
  refine hr.out.mono ?_
  rintro e w1 ⟨rfl, B1⟩
  go_wp2_with fail
  refine (hs.out _ B1).mono ?_
  rintro e w2 ⟨rfl, rfl⟩
  have O := owns_empty w2
  have hB : Below w2.heap.size w2 (w2.alloc (.cells #[] 5)) := (Below.refl _ _).alloc (Nat.le_refl _) _
  have H := (hf.out.kept B1 (Nat.le_refl _)).kept hB (Nat.le_refl _)
  go_wp2_with (at_builtin; refine wpList_app rfl (.tmp 26) (.tmp 29) rfl w2.heap.size _ 0 [] rfl O _ n cap (l.take n) rfl H (by omega) (by simp) ?_; intro v4 w4 O4 G4)
  obtain ⟨a4, c4, e4, H4⟩ := has_of_owns (l := l.take n) (n := 0 + n) (by simpa using O4) hl.out
  subst e4
  have B4 := hB.grown G4 (by simp) (fun k hk => (O.lt k hk).1)
  go_ret2
  exact ⟨_, _, _, rfl, H4, B1.trans (B4.mono B1.size)⟩

theorem numK_sum {s : Nat} (h : s < 4294967296) : numK (sumBytes s) 4 = s := by
  simp only [numK, sumBytes, List.getD_cons_zero, List.getD_cons_succ, Int.toNat_natCast, byteOf, Nat.reduceMul, Nat.reducePow]
  omega
/-- What was sealed is opened. -/
theorem open_sealed (w : World) (a : Option Addr) (len cap : Nat) (l : List Int) (h : Has w a len cap (l ++ sumBytes (more 0 l))) (hl : ∀ x ∈ l, 0 ≤ x ∧ x ≤ 255) (hb : len ≤ 1099511627776) (ht : Tab w) :
    Calls Tryd.prog 18 #[.slice a len cap] w (Some2 w l) := by
  have hn := h.hlen
  rw [List.length_append, show (sumBytes (more 0 l)).length = 4 from rfl] at hn
  have := open_any w a len cap _ h hb l.length hn.symm ht (by
    rw [List.drop_left, List.take_left, numK_sum (more_lt (by decide) hl)])
  rwa [List.take_left] at this

theorem nine : more 0 [49, 50, 51, 52, 53, 54, 55, 56, 57] = 3808858755 := by decide +kernel
theorem str_ab : strOfNums [97, 98] = ⟨#[97, 98]⟩ := rfl

theorem has_mark (w : World) (xs : List Int) (fr : Nat × Nat) (hb : ∀ x ∈ xs, 0 ≤ x ∧ x ≤ 255) (hm : xs.length ≤ maxLen) : Has (w.alloc (.cells (xs.map (Value.int .u8)).toArray 5 fr)) (some ⟨w.heap.size, 0, none⟩) xs.length xs.length xs := by
  refine ⟨rfl, Nat.le_refl _, hm, (fun h => by cases h), fun _ => ⟨w.heap.size, 0, rfl, by simp, fun i hi => ?_⟩, hb⟩
  have e := cell_of_row (w.alloc (.cells (xs.map (Value.int .u8)).toArray 5 fr)) w.heap.size (0 + i) _ 5 fr (heap_alloc_new w _)
  rw [e]
  simp [List.getElem?_eq_getElem hi]

set_option maxHeartbeats 1000000 in
theorem works_any (w : World) (ht : Tab w) : Calls Tryd.prog 15 #[] w fun e w' => e = .returned (.bool true) ∧ Below w.heap.size w w' := by
  have ht := hide ht
  have kc := fun (w : World) (C : Array Value) (n c : Nat) => Lib.run_convert_bytes_const (P := Tryd.prog) w 23 5 C n c Tryd.underlying23 Tryd.underlying5
  have hb0 : Below w.heap.size w (w.alloc (.cells #[.int .u8 97, .int .u8 98] 5 (2, 3))) := (Below.refl _ _).alloc (Nat.le_refl _) _
  have hab : Has (w.alloc (.cells #[.int .u8 97, .int .u8 98] 5 (2, 3))) (some ⟨w.heap.size, 0, none⟩) 2 2 [97, 98] := has_mark w [97, 98] _ (by decide) (by unfold maxLen; decide)
  go_enter Tryd.func15, Tryd.ntmps15
  go_wp2_with fail
  refine (sealed_any _ _ 2 2 [97, 98] hab (by omega) (ht.out.kept hb0 ht.out.pos)).mono ?_
  rintro e w1 ⟨a1, n1, c1, rfl, H1, B1, -⟩
  have b1 := hb0.trans (B1.mono hb0.size)
  have hn1 : n1 ≤ 1099511627776 := by have := H1.hlen; rw [List.length_append] at this; simp [sumBytes] at this; omega
  go_wp2_with fail
  refine (open_sealed _ _ _ _ [97, 98] H1 (by decide) hn1 (ht.out.kept b1 ht.out.pos)).mono ?_
  rintro e w2 ⟨a2, n2, c2, rfl, H2, B2⟩
  have b2 := b1.trans (B2.mono b1.size)
  obtain ⟨o9, ho9⟩ : ∃ o, Obj.cells #[.int .u8 49, .int .u8 50, .int .u8 51, .int .u8 52, .int .u8 53, .int .u8 54, .int .u8 55, .int .u8 56, .int .u8 57] 5 (9, 10) = o := ⟨_, rfl⟩
  have h9 : Has (w2.alloc o9) (some ⟨w2.heap.size, 0, none⟩) 9 9 [49, 50, 51, 52, 53, 54, 55, 56, 57] := by rw [← ho9]; exact has_mark w2 [49, 50, 51, 52, 53, 54, 55, 56, 57] _ (by decide) (by unfold maxLen; decide)
  have b3 := b2.alloc b2.size o9
  have hs := sum_any _ 9 9 _ _ h9 (ht.out.kept b3 ht.out.pos)
  rw [nine] at hs
  have H2 := hide (H2.kept ((Below.refl w2.heap.size w2).alloc (Nat.le_refl _) o9) (Nat.le_refl _))
  subst ho9
  have hs := hide hs
  clear H1 hab B1 B2 hb0 b1 h9
  go_wp2_with fail
  refine hs.out.mono ?_
  rintro e w3 ⟨rfl, B3⟩
  have r := run_string (H2.out.kept B3 (Nat.le_refl _))
  rw [str_ab] at r
  clear hs
  go_wp2
  go_ret
  exact ⟨rfl, b3.trans (B3.mono b3.size)⟩
end Go.Proofs.YtmfllalmnhkakaaDoor
