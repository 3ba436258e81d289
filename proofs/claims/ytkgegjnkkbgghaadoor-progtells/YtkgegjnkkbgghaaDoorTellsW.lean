/-
  The walk of ProgTells.
-/
import Derived.Test.YtkgegjnkkbgghaaDoorEE
import Derived.Test.YtkgegjnkkbgghaaDoorEA
namespace Go.Proofs.YtkgegjnkkbgghaaDoor
open Go.RowKit Go.Shelf Go.Lib
set_option linter.unusedVariables false
set_option linter.unusedSimpArgs false

theorem HsI.take {w : World} {Y : Nat → Prop} {a : Option Addr} {L : List Ins} (h : HsI w Y a L) (k : Nat) : HsI w Y a (L.take k) := by
  rcases h with rfl | ⟨b, off, cur, t, fr, e1, e2, e3, e4⟩
  · left; simp
  · right
    refine ⟨b, off, cur, t, fr, e1, e2, e3, fun j i hj => e4 j i ?_⟩
    rw [List.getElem?_take] at hj
    split at hj
    · exact hj
    · cases hj
theorem okS_of {s : S4} (h : ∀ z ∈ [s.a, s.b, s.c, s.d], (Lit.int .u64 z).wf = true) : OkS s := fun k hk => by
  have key : ∀ z, (Lit.int .u64 z).wf = true → 0 ≤ z ∧ z < 18446744073709551616 := fun z hz => by
    have := bounds_u64 hz
    omega
  rcases (show k = 0 ∨ k = 1 ∨ k = 2 ∨ k = 3 by omega) with rfl | rfl | rfl | rfl
  · exact key s.a (h s.a (by simp))
  · exact key s.b (h s.b (by simp))
  · exact key s.c (h s.c (by simp))
  · exact key s.d (h s.d (by simp))
theorem textV_val (L : List Ins) : ∃ s e, TextV L = .tuple #[.string s, .int .i64 e] := by
  unfold TextV
  split
  · exact ⟨_, _, rfl⟩
  · exact ⟨_, _, rfl⟩
/-- All that is asked, of a slice that is not too long. -/
structure TellsP (a : Option Addr) (n c : Nat) (s : ByteArray) (e E : Int) (w : World) : Prop where
  t1 : ∀ w', Below w.heap.size w w' → Calls Tryd.prog 15 #[.slice a n c] w' fun x w2 => x = .returned (.tuple #[.string s, .int .i64 e]) ∧ Below w'.heap.size w' w2
  t2 : ∀ w', Below w.heap.size w w' → Calls Tryd.prog 16 #[.slice a n c] w' fun x w2 => x = .returned (.tuple #[.string s, .int .i64 e]) ∧ Below w'.heap.size w' w2
  c1 : ∀ w', Below w.heap.size w w' → Calls Tryd.prog 17 #[.slice a n c] w' fun x w2 => x = .returned (.int .i64 E) ∧ Below w'.heap.size w' w2
  c2 : ∀ w', Below w.heap.size w w' → Calls Tryd.prog 18 #[.slice a n c] w' fun x w2 => x = .returned (.int .i64 E) ∧ Below w'.heap.size w' w2
theorem tellsP (a : Option Addr) (n c : Nat) (L : List Ins) (w : World) (hP : Pw w) (hl : L.length = n) (hm : n ≤ 3000) (hs : HsI w (fun k => k < w.heap.size) a L) (hok : ∀ i ∈ L, OkS i.s) : ∃ s e E, TellsP a n c s e E w := by
  obtain ⟨s, e, hv⟩ := textV_val L
  subst hl
  have hk : ∀ w', Below w.heap.size w w' → HsI w' (fun k => k < w'.heap.size) a L := fun w' hb => hs.kept (fun k hk _ => hb.block k hk) (fun k hk _ => by have := hb.size; omega)
  refine ⟨s, e, chkI L, fun w' hb => ?_, fun w' hb => ?_, fun w' hb => chk_any a c L w' (hk w' hb), fun w' hb => rchk_any a c L w' (hk w' hb) (by unfold maxLen; omega)⟩
  · have := text_any a c L w' (hP.below hb) (hk w' hb)
    rw [hv] at this
    exact this
  · have := rtext_any a c L w' (hk w' hb) (by unfold maxLen; omega) hok
    rw [hv] at this
    exact this
set_option maxHeartbeats 4000000 in
set_option maxRecDepth 100000 in
theorem tellsW (a : Option Addr) (len cap : Nat) (L : List Ins) (w : World) (hT : Tab w) (hP : Pw w) (h : HasI w a len cap L) : Calls Tryd.prog 4 #[.slice a len cap] w fun e w' => e = .returned (.bool true) ∧ Below w.heap.size w w' := by
  have h1 := h.hlen
  have h2 := h.le
  have h3 := h.capb
  unfold maxLen at h3
  have hok : ∀ i ∈ L, OkS i.s := fun i hi => okS_of (h.wf i hi)
  have WK := hide (fun w' (hb : Below w.heap.size w w') => works_any w' (hT.below hb) (hP.below hb))
  have hcap : (cap : Int) ≤ 9223372036854775807 := by omega
  by_cases hbig : 2048 < len
  · have i1 : (2048 : Int) < (len : Int) := by omega
    have i2 : (2049 : Int) ≤ (cap : Int) := by omega
    have i3 : 2049 ≤ cap := by omega
    obtain ⟨s, e, E, TP⟩ := tellsP a 2049 cap (L.take 2049) w hP (by rw [List.length_take]; omega) (by omega) (h.hs.take _) (fun i hi => hok i (List.mem_of_mem_take hi))
    replace TP := hide TP
    replace h := hide h
    replace hok := hide hok
    clear h1
    go_enter Tryd.func4, Tryd.ntmps4
    go_wp2_with fail
    refine (TP.out.t1 w (Below.refl _ _)).mono ?_
    rintro x w1 ⟨rfl, B1⟩
    go_wp2_with fail
    refine (TP.out.t2 w1 B1).mono ?_
    rintro x w2 ⟨rfl, B2⟩
    replace B2 := B1.trans (B2.mono B1.size)
    go_wp2_with fail
    refine (TP.out.c1 w2 B2).mono ?_
    rintro x w3 ⟨rfl, B3⟩
    replace B3 := B2.trans (B3.mono B2.size)
    go_wp2_with fail
    refine (TP.out.c2 w3 B3).mono ?_
    rintro x w4 ⟨rfl, B4⟩
    replace B4 := B3.trans (B4.mono B3.size)
    go_wp2_with fail
    refine (WK.out w4 B4).mono ?_
    rintro x w5 ⟨rfl, B5⟩
    replace B5 := B4.trans (B5.mono B4.size)
    go_wp2_with fail
    go_ret
    exact ⟨rfl, B5⟩
  · have i1 : ¬ ((2048 : Int) < (len : Int)) := by omega
    obtain ⟨m, hm⟩ : ∃ m : Nat, min len 300 = m := ⟨_, rfl⟩
    have hm1 : m ≤ len := by omega
    have hm2 : m ≤ 300 := by omega
    have p1 : (if ((len : Nat) : Int) < 300 then ((len : Nat) : Int) else 300) = (m : Int) := by rw [← hm]; split <;> omega
    have p2 : (if (300 : Int) < ((len : Nat) : Int) then 300 else ((len : Nat) : Int)) = (m : Int) := by rw [← hm]; split <;> omega
    have p3 : min (len : Int) 300 = (m : Int) := by omega
    have i2 : (m : Int) ≤ (cap : Int) := by omega
    have i3 : m ≤ cap := by omega
    obtain ⟨s, e, E, TP⟩ := tellsP a m cap (L.take m) w hP (by rw [List.length_take]; omega) (by omega) (h.hs.take _) (fun i hi => hok i (List.mem_of_mem_take hi))
    replace TP := hide TP
    replace h := hide h
    replace hok := hide hok
    replace hm := hide hm
    clear h1
    go_enter Tryd.func4, Tryd.ntmps4
    go_wp2_with fail
    refine (TP.out.t1 w (Below.refl _ _)).mono ?_
    rintro x w1 ⟨rfl, B1⟩
    go_wp2_with fail
    refine (TP.out.t2 w1 B1).mono ?_
    rintro x w2 ⟨rfl, B2⟩
    replace B2 := B1.trans (B2.mono B1.size)
    go_wp2_with fail
    refine (TP.out.c1 w2 B2).mono ?_
    rintro x w3 ⟨rfl, B3⟩
    replace B3 := B2.trans (B3.mono B2.size)
    go_wp2_with fail
    refine (TP.out.c2 w3 B3).mono ?_
    rintro x w4 ⟨rfl, B4⟩
    replace B4 := B3.trans (B4.mono B3.size)
    go_wp2_with fail
    refine (WK.out w4 B4).mono ?_
    rintro x w5 ⟨rfl, B5⟩
    replace B5 := B4.trans (B5.mono B4.size)
    go_wp2_with fail
    go_ret
    exact ⟨rfl, B5⟩
end Go.Proofs.YtkgegjnkkbgghaaDoor
