/-
  works: the chapter's example.
-/
import Derived.Test.YtgbijkdfhkkieaaY
namespace Go.Proofs.Ytgbijkdfhkkieaa
open Go.RowKit Go.Maps Go.Shelf
set_option linter.unusedVariables false
set_option linter.unusedSimpArgs false

theorem has_lit1 (w : World) (b : Int) (hb : 0 ≤ b ∧ b ≤ 255) : Has (w.alloc (.cells #[.int .u8 b] 5)) (some ⟨w.heap.size, 0, none⟩) 1 1 [b] := has_one w b hb
theorem has_lit2 (w : World) (b c : Int) (hb : 0 ≤ b ∧ b ≤ 255) (hc : 0 ≤ c ∧ c ≤ 255) : Has (w.alloc (.cells #[.int .u8 b, .int .u8 c] 5)) (some ⟨w.heap.size, 0, none⟩) 2 2 [b, c] :=
  has_lit w [b, c] (fun x hx => by simp at hx; omega) (by unfold maxLen; simp)
theorem hi_lit2 (w : World) (b c : Int) (hb : 0 ≤ b ∧ b ≤ 255) (hc : 0 ≤ c ∧ c ≤ 255) : Hi (w.alloc (.cells #[.int .i64 b, .int .i64 c] 3)) (some ⟨w.heap.size, 0, none⟩) 2 2 [b, c] := by
  refine ⟨rfl, Nat.le_refl _, by unfold maxLen; omega, fun e => (by cases e), fun _ => ⟨w.heap.size, 0, rfl, by simp, fun i hi => ?_⟩, fun x hx => by simp at hx; omega⟩
  rw [(Bx.new w 3 _).cell]
  rcases i with _ | _ | i
  · rfl
  · rfl
  · omega
/-- A disk under way: from w0 on only new blocks were taken. -/
def Run (w0 w : World) (d : Nat) (m : M) (T : Nat → Prop) : Prop := Disk w d m T ∧ Below w0.heap.size w0 w ∧ ∀ x, T x → w0.heap.size ≤ x
theorem Disk.lt {w : World} {d : Nat} {m : M} {T : Nat → Prop} (h : Disk w d m T) : ∀ x, T x → x < w.heap.size := by obtain ⟨_, _, _, h⟩ := h; exact h.lt
theorem Disk.below {w w' : World} {d : Nat} {m : M} {T : Nat → Prop} (h : Disk w d m T) (hb : Below w.heap.size w w') : Disk w' d m T := by obtain ⟨_, _, _, h⟩ := h; exact ⟨_, _, _, h.below hb⟩
theorem Disk.alloc {w : World} {d : Nat} {m : M} {T : Nat → Prop} (h : Disk w d m T) (o : Obj) : Disk (w.alloc o) d m T := h.below ((Below.refl _ _).alloc (Nat.le_refl _) _)
theorem Run.alloc {w0 w : World} {d : Nat} {m : M} {T : Nat → Prop} (h : Run w0 w d m T) (o : Obj) : Run w0 (w.alloc o) d m T := ⟨h.1.alloc o, h.2.1.alloc h.2.1.size o, h.2.2⟩
theorem Run.below {w0 w w' : World} {d : Nat} {m : M} {T : Nat → Prop} (h : Run w0 w d m T) (hb : Below w.heap.size w w') : Run w0 w' d m T := ⟨h.1.below hb, h.2.1.trans (hb.mono h.2.1.size), h.2.2⟩
theorem Run.up {w0 w w' : World} {d : Nat} {m m' : M} {T T' : Nat → Prop} (h : Run w0 w d m T) (hD : Disk w' d m' T') (hu : Up w T w' T') : Run w0 w' d m' T' :=
  ⟨hD, h.2.1.trans (hu.but.below h.2.1.size h.2.2), fun x hx => by
    rcases hu.own x hx with e | e
    · exact h.2.2 x e
    · exact Nat.le_trans h.2.1.size e⟩
/-- New bytes are none of the disk's. -/
theorem Run.new {w0 w : World} {d : Nat} {m : M} {T : Nat → Prop} (h : Run w0 w d m T) {k : Nat} (hk : w.heap.size ≤ k) : ¬ T k := fun e => by have := h.1.lt k e; omega
/-- What is handed out is none of the disk's, ever after. -/
theorem Up.not {w w' : World} {T T' : Nat → Prop} (hu : Up w T w' T') {k : Nat} (hk : k < w.heap.size) (hn : ¬ T k) : ¬ T' k := fun e => by
  rcases hu.own k e with e | e
  · exact hn e
  · omega

set_option maxHeartbeats 8000000 in
set_option maxRecDepth 100000 in
theorem works_any (w : World) : Calls Try.prog 7 #[] w fun e w' => e = .returned (.bool true) ∧ Below w.heap.size w w' := by
  go_enter Try.func7, Try.ntmps7
  go_wp2_with fail
  refine (make_any w 9 (by decide)).mono ?_
  rintro e w1 ⟨d, T1, rfl, hD1, B1, hT1⟩
  have R1 : Hid (Run w w1 d (m0 9) T1) := ⟨hD1, B1, hT1⟩
  clear hD1 B1 hT1
  go_wp2_with fail
  refine (create_any R1.out.1 (by exact ⟨by decide, by decide, by decide, by decide, fun g hg => by cases hg⟩) ⟨#[97]⟩).mono ?_
  rintro e w2 ⟨r2, m2, T2, rfl, hD2, u2, hC2⟩
  obtain ⟨g, hr2, _, O2⟩ := One.cr name_a hC2
  have R2 := hide (R1.out.up hD2 u2)
  subst hr2
  replace O2 := hide O2
  clear hD2 u2 hC2 R1
  have H7 := hide (has_lit1 w2 7 (by decide))
  have R2a := hide (R2.out.alloc (.cells #[.int .u8 7] 5))
  have n2a : Hid (∀ k, (Value.slice (some ⟨w2.heap.size, 0, none⟩) 1 1).ownBlock = some k → ¬ T2 k) := fun k hk => by cases hk; exact R2.out.new (Nat.le_refl _)
  go_wp2_with fail
  refine (append_any R2a.out.1 O2.out.sm ⟨#[97]⟩ H7.out (by decide) (fun _ => n2a.out)).mono ?_
  rintro e w3 ⟨r3, m3, T3, rfl, hD3, u3, hP3⟩
  obtain ⟨hr3, O3⟩ := O2.out.app name_a hP3 (by decide) (by decide) (by decide)
  have R3 := hide (R2a.out.up hD3 u3)
  subst hr3
  replace O3 := hide O3
  clear hD3 u3 hP3 R2 R2a H7 n2a O2
  go_wp2_with fail
  refine (sync_any R3.out.1 O3.out.sm ⟨#[97]⟩).mono ?_
  rintro e w4 ⟨r4, m4, T4, rfl, hD4, u4, hP4⟩
  obtain ⟨hr4, O4⟩ := O3.out.syn name_a hP4 (by decide)
  have R4 := hide (R3.out.up hD4 u4)
  subst hr4
  replace O4 := hide O4
  clear hD4 u4 hP4 R3 O3
  go_wp2_with fail
  refine (syncDir_any R4.out.1 O4.out.sm).mono ?_
  rintro e w5 ⟨r5, m5, T5, rfl, hD5, u5, hP5⟩
  obtain ⟨hr5, O5⟩ := O4.out.sdr hP5 (by decide)
  have R5 := hide (R4.out.up hD5 u5)
  subst hr5
  replace O5 := hide O5
  clear hD5 u5 hP5 R4 O4
  have H8 := hide (has_lit1 w5 8 (by decide))
  have R5a := hide (R5.out.alloc (.cells #[.int .u8 8] 5))
  have n5a : Hid (∀ k, (Value.slice (some ⟨w5.heap.size, 0, none⟩) 1 1).ownBlock = some k → ¬ T5 k) := fun k hk => by cases hk; exact R5.out.new (Nat.le_refl _)
  go_wp2_with fail
  refine (append_any R5a.out.1 O5.out.sm ⟨#[97]⟩ H8.out (by decide) (fun _ => n5a.out)).mono ?_
  rintro e w6 ⟨r6, m6, T6, rfl, hD6, u6, hP6⟩
  obtain ⟨hr6, O6⟩ := O5.out.app name_a hP6 (by decide) (by decide) (by decide)
  have R6 := hide (R5a.out.up hD6 u6)
  subst hr6
  replace O6 := hide O6
  clear hD6 u6 hP6 R5 R5a H8 n5a O5
  go_wp2_with fail
  refine (crash_disk R6.out.1 O6.out.sm O6.out.gd (hi_nil w6) (fun h => by omega)).mono ?_
  rintro e w7 ⟨r7, m7, T7, rfl, hD7, u7, hr7, hm7⟩
  have O7 := O6.out.crs []
  rw [← hm7] at O7
  rw [show crF ([] ++ [7] ++ [8]) ([] ++ [7]) [] = ([7], []) from works_cr1] at O7
  have R7 := hide (R6.out.up hD7 u7)
  subst hr7
  replace O7 := hide O7
  clear hD7 u7 hm7 R6 O6
  go_wp2_with fail
  refine (read_any R7.out.1 O7.out.sm ⟨#[97]⟩).mono ?_
  rintro e w8 hR8
  obtain ⟨B8, a8, n8, c8, rfl, H8, j8⟩ := O7.out.rd name_a hR8
  have R8 := hide (R7.out.below B8)
  have k8 : Hid (∀ k, (Value.slice a8 n8 c8).ownBlock = some k → ¬ T7 k) := fun k hk => R7.out.new (j8 k hk)
  replace H8 := hide H8
  clear hR8 B8 j8 R7
  have L8 := hide (has_lit1 w8 8 (by decide))
  have R8a := hide (R8.out.alloc (.cells #[.int .u8 8] 5))
  have H8a := hide (H8.out.kept ((Below.refl w8.heap.size w8).alloc (Nat.le_refl _) (.cells #[.int .u8 8] 5)) (Nat.le_refl _))
  have n8a : Hid (∀ k, (Value.slice (some ⟨w8.heap.size, 0, none⟩) 1 1).ownBlock = some k → ¬ T7 k) := fun k hk => by cases hk; exact R8.out.new (Nat.le_refl _)
  go_wp2_with fail
  refine (append_any R8a.out.1 O7.out.sm ⟨#[97]⟩ L8.out (by decide) (fun _ => n8a.out)).mono ?_
  rintro e w9 ⟨r9, m9, T9, rfl, hD9, u9, hP9⟩
  obtain ⟨hr9, O9⟩ := O7.out.app name_a hP9 (by decide) (by decide) (by decide)
  have R9 := hide (R8a.out.up hD9 u9)
  have H9 := hide (H8a.out.but u9.but k8.out)
  have k9 : Hid (∀ k, 0 < n8 → (Value.slice a8 n8 c8).ownBlock = some k → ¬ T9 k ∧ k < w9.heap.size) := fun k hp hk => by
    obtain ⟨b, off, e1, e2, _⟩ := H8a.out.cells hp
    have e3 : b = k := by rw [e1] at hk; simpa [Value.ownBlock] using hk
    rw [← e3]
    exact ⟨u9.not e2 (by rw [e3]; exact k8.out k hk), Nat.lt_of_lt_of_le e2 u9.but.size⟩
  subst hr9
  replace O9 := hide O9
  clear hD9 u9 hP9 R8 R8a L8 n8a O7 H8a H8 k8
  have P9 := hide (hi_lit2 w9 1 1 (by decide) (by decide))
  have R9a := hide (R9.out.alloc (.cells #[.int .i64 1, .int .i64 1] 3))
  have H9a := hide (H9.out.kept ((Below.refl w9.heap.size w9).alloc (Nat.le_refl _) (.cells #[.int .i64 1, .int .i64 1] 3)) (Nat.le_refl _))
  have n9a : Hid (∀ k, (Value.slice (some ⟨w9.heap.size, 0, none⟩) 2 2).ownBlock = some k → ¬ T9 k) := fun k hk => by cases hk; exact R9.out.new (Nat.le_refl _)
  go_wp2_with fail
  refine (crash_disk R9a.out.1 O9.out.sm O9.out.gd P9.out (fun _ => n9a.out)).mono ?_
  rintro e wa ⟨ra, ma, Ta, rfl, hDa, ua, hra, hma⟩
  have Oa := O9.out.crs [1, 1]
  rw [← hma] at Oa
  rw [show crF ([7] ++ [8]) [7] [1, 1] = ([7, 8], []) from works_cr2] at Oa
  have Ra := hide (R9a.out.up hDa ua)
  have Ha : Has wa a8 n8 c8 [7] := by
    have hp : 0 < n8 := by have := H9.out.hlen; simp at this; omega
    exact H9a.out.but ua.but (fun k hk => (k9.out k hp hk).1)
  replace Ha := hide Ha
  subst hra
  replace Oa := hide Oa
  clear hDa ua hma R9 R9a P9 n9a O9 H9a H9 k9
  go_wp2_with fail
  refine (read_any Ra.out.1 Oa.out.sm ⟨#[97]⟩).mono ?_
  rintro e wb hRb
  obtain ⟨Bb, ab, nb, cb, rfl, Hb, jb⟩ := Oa.out.rd name_a hRb
  have Rb := hide (Ra.out.below Bb)
  have Hx := hide (Ha.out.kept Bb (Nat.le_refl _))
  replace Hb := hide Hb
  clear hRb Bb jb Ra Ha Oa
  have L7 := hide (has_lit1 wb 7 (by decide))
  have Hx1 := hide (Hx.out.kept ((Below.refl wb.heap.size wb).alloc (Nat.le_refl _) (.cells #[.int .u8 7] 5)) (Nat.le_refl _))
  have Hb1 := hide (Hb.out.kept ((Below.refl wb.heap.size wb).alloc (Nat.le_refl _) (.cells #[.int .u8 7] 5)) (Nat.le_refl _))
  obtain ⟨wc, hwc⟩ : ∃ wc, wb.alloc (.cells #[.int .u8 7] 5) = wc := ⟨_, rfl⟩
  have Rc := hide (Rb.out.alloc (.cells #[.int .u8 7] 5))
  rw [hwc] at L7 Hx1 Hb1 Rc
  go_wp2_with fail
  refine (same_any wc _ _ _ _ _ _ _ _ Hx1.out L7.out).mono ?_
  rintro e w' ⟨rfl, hw⟩; replace hw := hw.symm; subst hw
  have L78 := hide (has_lit2 wc 7 8 (by decide) (by decide))
  have Hb2 := hide (Hb1.out.kept ((Below.refl wc.heap.size wc).alloc (Nat.le_refl _) (.cells #[.int .u8 7, .int .u8 8] 5)) (Nat.le_refl _))
  have Rd := hide (Rc.out.alloc (.cells #[.int .u8 7, .int .u8 8] 5))
  clear hwc
  rw [show decide (([7] : List Int) = [7]) = true from rfl]
  go_wp2_with fail
  refine (same_any _ _ _ _ _ _ _ _ _ Hb2.out L78.out).mono ?_
  rintro e w' ⟨rfl, hw⟩; replace hw := hw.symm; subst hw
  rw [show decide (([7, 8] : List Int) = [7, 8]) = true from rfl]
  go_wp2_with fail
  go_ret
  exact ⟨rfl, Rd.out.2.1⟩
end Go.Proofs.Ytgbijkdfhkkieaa
