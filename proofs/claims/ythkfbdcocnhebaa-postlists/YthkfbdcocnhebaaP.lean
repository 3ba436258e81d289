/-
  The reference's Or, And.
-/
import Derived.Test.YthkfbdcocnhebaaO
namespace Go.Proofs.Ythkfbdcocnhebaa
open Go.RowKit
set_option linter.unusedVariables false
set_option linter.unusedSimpArgs false

/-- How a call ends that hands out a rising list of the numbers M, if p, and refuses else. -/
def RetW (w : World) (p : Prop) (M : Int → Prop) (N : Nat) (e : Ending) (w' : World) : Prop :=
  ∃ r a n c er, e = .returned (.tuple #[.slice a n c, .int .i64 er]) ∧ HasU w' a n c r ∧ Below w.heap.size w w' ∧ ((p ∧ er = 0 ∧ Up r ∧ (∀ x, x ∈ r ↔ M x) ∧ r.length ≤ N) ∨ (¬ p ∧ er = 2 ∧ r = []))
theorem RetE.weak {w w' : World} {p : Prop} {M : Int → Prop} {N : Nat} {e : Ending} (h : RetE w p M N e w') : RetW w p M N e w' := by
  obtain ⟨r, a, n, c, er, h1, h2, h3, _, h5⟩ := h
  exact ⟨r, a, n, c, er, h1, h2, h3, h5⟩
/-- Two such calls end alike. -/
theorem retW_same {p : Prop} {M : Int → Prop} {N N' : Nat} {r r' : List Int} {er er' : Int} (h : (p ∧ er = 0 ∧ Up r ∧ (∀ x, x ∈ r ↔ M x) ∧ r.length ≤ N) ∨ (¬ p ∧ er = 2 ∧ r = [])) (h' : (p ∧ er' = 0 ∧ Up r' ∧ (∀ x, x ∈ r' ↔ M x) ∧ r'.length ≤ N') ∨ (¬ p ∧ er' = 2 ∧ r' = [])) : r = r' ∧ er = er' ∧ r.length ≤ N := by
  rcases h with ⟨p1, rfl, u1, m1, l1⟩ | ⟨p1, rfl, rfl⟩ <;> rcases h' with ⟨p2, rfl, u2, m2, _⟩ | ⟨p2, rfl, rfl⟩
  · exact ⟨up_ext u1 u2 (fun x => (m1 x).trans (m2 x).symm), rfl, l1⟩
  · exact (p2 p1).elim
  · exact (p1 p2).elim
  · exact ⟨rfl, rfl, by simp⟩
theorem tot_take {ls : List (List Int)} {i : Nat} (hi : i < ls.length) : tot (ls.take (i + 1)) = tot (ls.take i) + (ls.getD i []).length := by
  have e : ls.take (i + 1) = ls.take i ++ [ls.getD i []] := by
    rw [List.take_add_one, show ls.getD i [] = ls[i] by simp [List.getD, List.getElem?_eq_getElem hi], List.getElem?_eq_getElem hi]
    rfl
  rw [e, tot_append]
  simp [tot]
theorem tot_take_le (ls : List (List Int)) (i : Nat) : tot (ls.take i) ≤ tot ls := by
  have := tot_append (ls.take i) (ls.drop i)
  rw [List.take_append_drop] at this
  omega
theorem hasU_empty (w : World) : HasU (w.alloc (.cells #[] 24)) (some ⟨w.heap.size, 0, none⟩) 0 0 [] := ⟨rfl, Nat.le_refl _, Nat.zero_le _, (fun h => by cases h), fun h => by omega, fun x hx => by simp at hx⟩
set_option maxHeartbeats 8000000 in
set_option maxRecDepth 100000 in
theorem ror_any (w : World) (a : Option Addr) (n c : Nat) (ls : List (List Int)) (H : HasLL w a n c ls) (hn : n ≤ 4096) (hT : tot ls ≤ 50000) : Calls Try.prog 13 #[.slice a n c] w (RetW w (UpL ls) (Tog 7 ls) (tot ls)) := by
  have MA := hide (rall_any w a n c ls H hn (fun l hl => by have := mem_tot hl; omega))
  have hl := hide H.hlen
  have hH := hide H
  have i1 : (n : Int) ≤ 4096 := by omega
  clear H
  by_cases hu : UpL ls
  · rw [allE_ok hu] at MA
    have hu' := hide hu
    clear hu
    go_enter Try.func13, Try.ntmps13
    go_wp2_with fail
    refine MA.out.mono ?_
    rintro e w2 ⟨rfl, B3⟩
    have B4 : Hid (Below w.heap.size w (w2.alloc (.cells #[] 24))) := B3.alloc B3.size _
    have HE := hasU_empty w2
    obtain ⟨w3, hw3⟩ : ∃ w3, w2.alloc (.cells #[] 24) = w3 := ⟨_, rfl⟩
    rw [hw3] at B4 HE
    replace hw3 := hide hw3
    replace HE := hide HE
    clear B3
    go_wp2_with fail
    rw [hw3.out]
    go_loopw [5, 6] (fun vo vi wr => ∃ (i : Nat) (ao : Option Addr) (co : Nat) (r : List Int), i ≤ n ∧ vo = .slice ao r.length co ∧ vi = .int .i64 (i : Int) ∧ Hid (HasU wr ao r.length co r) ∧ Hid (Up r) ∧ Hid (∀ y, y ∈ r ↔ ∃ j, j < i ∧ y ∈ ls.getD j []) ∧ Hid (r.length ≤ tot (ls.take i)) ∧ Hid (Below w.heap.size w wr)) (fun _ vi _ => n - (intOf vi).toNat)
    case atStart => exact ⟨0, _, _, [], Nat.zero_le _, rfl, rfl, HE, up_nil, (fun y => by simp : ∀ y, y ∈ ([] : List Int) ↔ ∃ j, j < 0 ∧ y ∈ ls.getD j []), (by simp : ([] : List Int).length ≤ tot (ls.take 0)), B4⟩
    case round =>
      obtain ⟨i, ao, co, r, hi, rfl, rfl, hR, hU, hM, hL, hB⟩ := hrel
      by_cases hlt : i < n
      · have j1 : (i : Int) < (n : Int) := by omega
        have j2 : (0 : Int) ≤ (i : Int) := by omega
        obtain ⟨bb, off, x, m, k0, rfl, hbb, c1, HU⟩ := hH.out.cells i hlt
        have c1i : Hid (∀ W, Below w.heap.size w W → W.cell? ⟨bb, off + i, none⟩ = some (.slice x m k0)) := fun W hW => (hW.cell (p := ⟨bb, off + i, none⟩) hbb).trans c1
        have hil : i < ls.length := by rw [hl.out]; exact hlt
        have htk := hide (tot_take hil)
        have htl := hide (tot_take_le ls (i + 1))
        have hjm : Hid (∀ y, (∃ j, j < i + 1 ∧ y ∈ ls.getD j []) ↔ (∃ j, j < i ∧ y ∈ ls.getD j []) ∨ y ∈ ls.getD i []) := fun y => by
          constructor
          · rintro ⟨j, h1, h2⟩
            rcases Nat.lt_or_ge j i with h | h
            · exact .inl ⟨j, h, h2⟩
            · obtain rfl : j = i := by omega
              exact .inr h2
          · rintro (⟨j, h1, h2⟩ | h)
            · exact ⟨j, by omega, h2⟩
            · exact ⟨i, by omega, h⟩
        have hml := HU.hlen
        have hum := hu'.out _ (mem_getD hil)
        have hUL := hide HU
        clear c1 HU hil
        generalize ls.getD i [] = l at *
        replace hum := hide hum
        have hmb : m ≤ 50000 := by have := htk.out; have := htl.out; omega
        replace hml := hide hml
        go_wp2_with fail
        go_loopw [5, 7] (fun vo vk wq => ∃ (k : Nat) (ao : Option Addr) (co : Nat) (r : List Int), k ≤ m ∧ vo = .slice ao r.length co ∧ vk = .int .i64 (k : Int) ∧ Hid (HasU wq ao r.length co r) ∧ Hid (Up r) ∧ Hid (∀ y, y ∈ r ↔ (∃ j, j < i ∧ y ∈ ls.getD j []) ∨ y ∈ l.take k) ∧ Hid (r.length ≤ tot (ls.take i) + k) ∧ Hid (Below w.heap.size w wq)) (fun _ vk _ => m - (intOf vk).toNat)
        case atStart => exact ⟨0, ao, co, r, Nat.zero_le _, rfl, rfl, hR, hU, (fun y => by rw [hM.out y]; simp : ∀ y, y ∈ r ↔ (∃ j, j < i ∧ y ∈ ls.getD j []) ∨ y ∈ l.take 0), hL, hB⟩
        case round =>
          obtain ⟨k, a2, c2, r2, hk, rfl, rfl, hR2, hU2, hM2, hL2, hB2⟩ := hrel
          have ci := c1i.out _ hB2.out
          by_cases hkm : k < m
          · have q1 : (k : Int) < (m : Int) := by omega
            have q2 : (0 : Int) ≤ (k : Int) := by omega
            obtain ⟨b3, o3, rfl, hb3, d1, d2, d3⟩ := (hUL.out.kept hB2.out (Nat.le_refl _)).at k hkm
            have hkl : k < l.length := by rw [hml.out]; exact hkm
            have hts := hide (take_succ hkl)
            clear hkl
            generalize l.getD k 0 = t at *
            have AD := hide (radd_any _ a2 r2.length c2 r2 hR2.out (by have := hL2.out; have := htk.out; have := htl.out; have := hml.out; omega) t ⟨d2, d3⟩)
            go_wp2_with fail
            refine AD.out.mono ?_
            intro e w6 R
            obtain ⟨r3, a3, n3, c3, rfl, R3, B3, u3, m3, l3⟩ := R.out hU2.out
            have hn3 := R3.hlen
            subst hn3
            have hM3 : Hid (∀ y, y ∈ r3 ↔ (∃ j, j < i ∧ y ∈ ls.getD j []) ∨ y ∈ l.take (k + 1)) := fun y => by
              rw [m3 y, hM2.out y, hts.out, List.mem_append, List.mem_singleton]
              constructor
              · rintro ((h | h) | h)
                · exact .inl h
                · exact .inr (.inl h)
                · exact .inr (.inr h)
              · rintro (h | h | h)
                · exact .inl (.inl h)
                · exact .inl (.inr h)
                · exact .inr h
            have hL3 : Hid (r3.length ≤ tot (ls.take i) + (k + 1)) := by show _ ≤ _; have := hL2.out; omega
            have hB3 : Hid (Below w.heap.size w w6) := hB2.out.trans (B3.mono hB2.out.size)
            replace R3 := hide R3
            replace u3 := hide u3
            clear R B3 m3 l3 AD
            go_wp2_with fail
            go_roundw
            case rel => exact ⟨k + 1, a3, c3, r3, by omega, rfl, by go_num, R3, u3, hM3, hL3, hB3⟩
            case measure => simp [intOf]; omega
          · obtain rfl : k = m := by omega
            have q1 : ¬ (k : Int) < (k : Int) := by omega
            have hM3 : Hid (∀ y, y ∈ r2 ↔ ∃ j, j < i + 1 ∧ y ∈ ls.getD j []) := fun y => by
              rw [hM2.out y, hjm.out y, List.take_of_length_le (by rw [hml.out]; exact Nat.le_refl _)]
            have hL3 : Hid (r2.length ≤ tot (ls.take (i + 1))) := by show _ ≤ _; have := hL2.out; have := htk.out; have := hml.out; omega
            go_wp2_with fail
            go_roundw
            case rel => exact ⟨i + 1, a2, c2, r2, by omega, rfl, by go_num, hR2, hU2, hM3, hL3, hB2⟩
            case measure => simp [intOf]; omega
      · obtain rfl : i = n := by omega
        have j1 : ¬ (i : Int) < (i : Int) := by omega
        have fin : Hid (RetW w (UpL ls) (Tog 7 ls) (tot ls) (.returned (.tuple #[.slice ao r.length co, .int .i64 0])) wr) := ⟨r, ao, r.length, co, 0, rfl, hR.out, hB.out, .inl ⟨hu'.out, rfl, hU.out, fun y => by
          rw [hM.out y]
          simp only [Tog, show ¬ ((7 : Int) = 4) by decide, if_false]
          constructor
          · rintro ⟨j, h1, h2⟩; exact ⟨_, mem_getD (by rw [hl.out]; exact h1), h2⟩
          · rintro ⟨l, h1, h2⟩
            obtain ⟨j, hj, rfl⟩ := List.getElem_of_mem h1
            exact ⟨j, by rw [← hl.out]; exact hj, by simpa [List.getD, List.getElem?_eq_getElem hj] using h2⟩, Nat.le_trans hL.out (tot_take_le ls i)⟩⟩
        go_wp2_with fail
        go_ret2
        exact fin.out
  · rw [allE_no hu] at MA
    have hu' := hide hu
    clear hu
    go_enter Try.func13, Try.ntmps13
    go_wp2_with fail
    refine MA.out.mono ?_
    rintro e w2 ⟨rfl, B2⟩
    replace B2 := hide B2
    go_wp2_with fail
    go_ret2
    exact ⟨[], none, 0, 0, 2, rfl, hasU_nil _, B2.out, .inr ⟨hu'.out, rfl, rfl⟩⟩
theorem getD_zero (ls : List (List Int)) : ls.getD 0 [] = ls.headD [] := by cases ls <;> rfl
set_option maxHeartbeats 8000000 in
set_option maxRecDepth 100000 in
theorem rand_any (w : World) (a : Option Addr) (n c : Nat) (ls : List (List Int)) (H : HasLL w a n c ls) (hn : n ≤ 4096) (hT : tot ls ≤ 50000) : Calls Try.prog 12 #[.slice a n c] w (RetW w (UpL ls) (Tog 4 ls) (tot ls)) := by
  have MA := hide (rall_any w a n c ls H hn (fun l hl => by have := mem_tot hl; omega))
  have hl := hide H.hlen
  have hH := hide H
  have i1 : (n : Int) ≤ 4096 := by omega
  clear H
  by_cases hu : UpL ls
  · rw [allE_ok hu] at MA
    have hu' := hide hu
    clear hu
    by_cases hn0 : n = 0
    · subst hn0
      have hls : ls = [] := List.eq_nil_of_length_eq_zero hl.out
      go_enter Try.func12, Try.ntmps12
      go_wp2_with fail
      refine MA.out.mono ?_
      rintro e w2 ⟨rfl, B3⟩
      have B4 : Hid (Below w.heap.size w (w2.alloc (.cells #[] 24))) := B3.alloc B3.size _
      have HE := hide (hasU_empty w2)
      replace hls := hide hls
      go_wp2_with fail
      go_loopw [5, 6] (fun vo vi wr => vo = .slice (some ⟨w2.heap.size, 0, none⟩) 0 0 ∧ vi = .int .i64 0 ∧ Hid (HasU wr (some ⟨w2.heap.size, 0, none⟩) 0 0 []) ∧ Hid (Below w.heap.size w wr)) (fun _ _ _ => 0)
      case atStart => exact ⟨rfl, rfl, HE, B4⟩
      case round =>
        obtain ⟨rfl, rfl, h1, h2⟩ := hrel
        go_wp2_with fail
        go_ret2
        exact ⟨[], _, 0, 0, 0, rfl, h1.out, h2.out, .inl ⟨hu'.out, rfl, up_nil, fun x => by rw [hls.out]; simp [tog_nil], by simp⟩⟩
    · have i2 : (0 : Int) < (n : Int) := by omega
      obtain ⟨b0, off, x0, m0, k0, rfl, hb0, c0, HU0⟩ := hH.out.cells 0 (by omega)
      have c0' : Hid (∀ W, Below w.heap.size w W → W.cell? ⟨b0, off, none⟩ = some (.slice x0 m0 k0)) := fun W hW => (hW.cell (p := ⟨b0, off, none⟩) hb0).trans (by simpa using c0)
      have hm0 := HU0.hlen
      have hin0 : ls.getD 0 [] ∈ ls := mem_getD (by rw [hl.out]; omega)
      have hu0 := hu'.out _ hin0
      have hmb : m0 ≤ 50000 := by have := mem_tot hin0; omega
      have hNle : Hid (m0 ≤ tot ls) := by show _ ≤ _; have := mem_tot hin0; omega
      have hU0 := hide HU0
      replace hm0 := hide hm0
      replace hu0 := hide hu0
      replace hin0 := hide hin0
      clear c0 HU0 hn0
      obtain ⟨l0, hl0⟩ : ∃ l0, l0 = ls.getD 0 [] := ⟨_, rfl⟩
      rw [← hl0] at hm0 hu0 hU0 hin0
      replace hl0 := hide hl0
      obtain ⟨P, hP⟩ : ∃ P : Int → Bool, P = fun x => decide (∀ l ∈ ls, x ∈ l) := ⟨_, rfl⟩
      replace hP := hide hP
      go_enter Try.func12, Try.ntmps12
      go_wp2_with fail
      refine MA.out.mono ?_
      rintro e w2 ⟨rfl, B3⟩
      have B4 : Hid (Below w.heap.size w (w2.alloc (.cells #[] 24))) := B3.alloc B3.size _
      have O := (owns_empty w2)
      have O' : (w2.alloc (.cells #[] 24)).ownsRow w.heap.size 24 1 (.slice (some ⟨w2.heap.size, 0, none⟩) 0 0) 0 (([] : List Int).map (Value.int .u64)) := ⟨O.1, by
        rcases O.2 with h | ⟨g, cap, cur, h1, h2, h3⟩
        · exact .inl h
        · exact .inr ⟨g, cap, cur, h1, by have := B3.size; omega, h3⟩⟩
      obtain ⟨w3, hw3⟩ : ∃ w3, w2.alloc (.cells #[] 24) = w3 := ⟨_, rfl⟩
      rw [hw3] at B4 O'
      replace hw3 := hide hw3
      replace O' := hide O'
      clear B3 O
      go_wp2_with fail
      rw [hw3.out]
      go_loopw [5, 6] (fun vo vi wr => ∃ (i : Nat) (ao : Option Addr) (co : Nat) (r : List Int), i ≤ m0 ∧ r.length ≤ i ∧ vo = .slice ao r.length co ∧ vi = .int .i64 (i : Int) ∧ Hid (r = (l0.take i).filter P) ∧ Hid (wr.ownsRow w.heap.size 24 1 (.slice ao r.length co) r.length (r.map (Value.int .u64))) ∧ Hid (Below w.heap.size w wr)) (fun _ vi _ => m0 - (intOf vi).toNat)
      case atStart => exact ⟨0, _, _, [], Nat.zero_le _, by simp, rfl, rfl, (rfl : _ = _), O', B4⟩
      case round =>
        obtain ⟨i, ao, co, r, hi, hri, rfl, rfl, hr, hO, hB⟩ := hrel
        have cc := c0'.out wr hB.out
        by_cases hlt : i < m0
        · have j1 : (i : Int) < (m0 : Int) := by omega
          have j2 : (0 : Int) ≤ (i : Int) := by omega
          have hil : i < l0.length := by rw [hm0.out]; exact hlt
          have hts := hide (take_succ hil)
          have hx0 := hide (getD_mem hil)
          obtain ⟨bb, oo, rfl, hbb, d1, d2, d3⟩ := hU0.out.at i hlt
          have d1i : Hid (∀ W, Below w.heap.size w W → W.cell? ⟨bb, oo + i, none⟩ = some (.int .u64 (l0.getD i 0))) := fun W hW => (hW.cell (p := ⟨bb, oo + i, none⟩) hbb).trans d1
          clear d1 hil
          generalize l0.getD i 0 = t at *
          have hsz := hB.out.size
          go_wp2_with fail
          go_loopw [7, 8] (fun vb vk wq => ∃ (k : Nat) (bo : Bool), 1 ≤ k ∧ k ≤ n ∧ vb = .bool bo ∧ vk = .int .i64 (k : Int) ∧ Hid (bo = true ↔ ∀ j, 1 ≤ j → j < k → t ∈ ls.getD j []) ∧ Hid (wq.ownsRow w.heap.size 24 1 (.slice ao r.length co) r.length (r.map (Value.int .u64))) ∧ Hid (Below w.heap.size w wq)) (fun _ vk _ => n - (intOf vk).toNat)
          case atStart => exact ⟨1, true, by omega, by omega, rfl, rfl, (⟨fun _ j h1 h2 => by omega, fun _ => rfl⟩ : _ ↔ _), hO, hB⟩
          case round =>
            obtain ⟨k, bo, hk1, hk, rfl, rfl, hbo, hO2, hB2⟩ := hrel
            by_cases hkn : k < n
            · have q1 : (k : Int) < (n : Int) := by omega
              have q2 : (0 : Int) ≤ (k : Int) := by omega
              obtain ⟨b5, o5, x5, m5, k5, e5, hb5, c5, HU5⟩ := hH.out.cells k hkn
              cases e5
              have c5i := (hB2.out.cell (p := ⟨b0, off + k, none⟩) hb5).trans c5
              have cc2 := c0'.out _ hB2.out
              have ct2 := d1i.out _ hB2.out
              have hkl : k < ls.length := by rw [hl.out]; exact hkn
              have hm5 : m5 ≤ 50000 := by have := mem_tot (mem_getD hkl); have := HU5.hlen; omega
              cases bo with
              | true =>
                have IN : Hid (∀ W, Below w.heap.size w W → Calls Try.prog 46 #[.slice x5 m5 k5, .int .u64 t] W fun e w' => e = .returned (.bool (decide (t ∈ ls.getD k []))) ∧ w' = W) := fun W hW => in_any W x5 m5 k5 _ t (HU5.kept hW (Nat.le_refl _)) (by omega)
                have hbo2 : Hid (decide (t ∈ ls.getD k []) = true ↔ ∀ j, 1 ≤ j → j < k + 1 → t ∈ ls.getD j []) := by
                  have := hbo.out.1 rfl
                  constructor
                  · intro h j h1 h2
                    rcases Nat.lt_or_ge j k with h3 | h3
                    · exact this j h1 h3
                    · obtain rfl : j = k := by omega
                      exact of_decide_eq_true h
                  · intro h; exact decide_eq_true (h k hk1 (by omega))
                generalize decide (t ∈ ls.getD k []) = b2 at *
                clear c5 HU5 hkl
                go_wp2_with fail
                go_quiet ((go_at_call 46; exact Calls.quiet_of_same (IN.out _ (below_drewN hB2.out _))))
                go_wp2_with fail
                go_roundw
                case rel => exact ⟨k + 1, b2, by omega, by omega, rfl, by go_num, hbo2, ownU_drewN hO2.out, below_drewN hB2.out _⟩
                case measure => simp [intOf]; omega
              | false =>
                have hbo2 : Hid (false = true ↔ ∀ j, 1 ≤ j → j < k + 1 → t ∈ ls.getD j []) := ⟨fun h => (by cases h), fun h => hbo.out.2 (fun j h1 h2 => h j h1 (by omega))⟩
                clear c5 HU5 hkl
                go_wp2_with fail
                go_quiet (fail)
                go_wp2_with fail
                go_roundw
                case rel => exact ⟨k + 1, false, by omega, by omega, rfl, by go_num, hbo2, ownU_drewN hO2.out, below_drewN hB2.out _⟩
                case measure => simp [intOf]; omega
            · obtain rfl : k = n := by omega
              have q1 : ¬ (k : Int) < (k : Int) := by omega
              have cc2 := c0'.out _ hB2.out
              have ct2 := d1i.out _ hB2.out
              have hPt : bo = P t := by
                rw [hP.out]
                cases bo with
                | true =>
                  have := hbo.out.1 rfl
                  refine (decide_eq_true ?_).symm
                  intro l hlm
                  obtain ⟨j, hj, rfl⟩ := List.getElem_of_mem hlm
                  rcases Nat.eq_zero_or_pos j with h | h
                  · subst h
                    have := hx0.out
                    rw [hl0.out] at this
                    simpa [List.getD, List.getElem?_eq_getElem hj] using this
                  · have := this j h (by rw [← hl.out]; exact hj)
                    simpa [List.getD, List.getElem?_eq_getElem hj] using this
                | false =>
                  refine (decide_eq_false ?_).symm
                  intro h
                  have := hbo.out.2 (fun j h1 h2 => h _ (mem_getD (by rw [hl.out]; exact h2)))
                  cases this
              cases bo with
              | true =>
                have hr2 : Hid (r ++ [t] = (l0.take (i + 1)).filter P) := by
                  show _ = _
                  rw [hts.out, List.filter_append, ← hr.out]
                  simp [← hPt]
                replace hPt := hide hPt
                have hsz2 := hB2.out.size
                have cn : (u : World) → (u.alloc (.cells #[.int .u64 t] 24)).cell? ⟨u.heap.size, 0, none⟩ = some (.int .u64 t) := fun u => cell_row (heap_alloc_new u _) 0 rfl
                have hOt := fun (u : World) (h : u.ownsRow w.heap.size 24 1 (.slice ao r.length co) r.length (r.map (Value.int .u64))) => hide (owns_alloc24 h (.cells #[.int .u64 t] 24))
                replace cn := hide cn
                replace hOt := hide hOt
                go_wp2_with (first | (at_builtin; refine wpList_push rfl (.tmp 49) (.tmp 56) rfl w.heap.size _ r.length r rfl (hOt.out _ hO2.out).out _ t rfl (cn.out _) (by omega) (by simp; omega) ?_; intro g cap w6 hO3 hg3; have B6 : Hid (Below w.heap.size w w6) := (hB2.out.alloc (by omega) _).grown hg3 (by simp; omega) (fun k hk => ((hOt.out _ hO2.out).out.lt k hk).1); replace hO3 := hide hO3; clear hg3))
                go_roundw
                case rel => exact ⟨i + 1, some ⟨g, 0, none⟩, cap, r ++ [t], by omega, by simp; omega, by rw [el_len], by go_num, hr2, own_el hO3.out, B6⟩
                case measure => simp [intOf]; omega
              | false =>
                have hr2 : Hid (r = (l0.take (i + 1)).filter P) := by
                  show _ = _
                  rw [hts.out, List.filter_append, ← hr.out]
                  simp [← hPt]
                replace hPt := hide hPt
                go_wp2_with fail
                go_roundw
                case rel => exact ⟨i + 1, ao, co, r, by omega, by omega, rfl, by go_num, hr2, hO2, hB2⟩
                case measure => simp [intOf]; omega
        · obtain rfl : i = m0 := by omega
          have j1 : ¬ (i : Int) < (i : Int) := by omega
          have hrr := hr.out
          rw [List.take_of_length_le (by rw [hm0.out]; exact Nat.le_refl _)] at hrr
          have fin : Hid (RetW w (UpL ls) (Tog 4 ls) (tot ls) (.returned (.tuple #[.slice ao r.length co, .int .i64 0])) wr) := RetE.weak (retE_own hu'.out hO.out (fun y hy => hU0.out.range y (List.mem_filter.1 (hrr ▸ hy)).1) hB.out (by rw [hrr]; exact up_filter hu0.out _) (fun y => by
            rw [hrr, List.mem_filter, hP.out]
            simp only [decide_eq_true_iff, Tog, if_true]
            constructor
            · rintro ⟨h1, h2⟩; exact ⟨fun e => by rw [e] at hin0; exact absurd hin0.out (by simp), h2⟩
            · rintro ⟨_, h2⟩; exact ⟨h2 _ hin0.out, h2⟩) (by have := hNle.out; omega))
          clear hrr
          go_wp2_with fail
          go_ret2
          exact fin.out
  · rw [allE_no hu] at MA
    have hu' := hide hu
    clear hu
    go_enter Try.func12, Try.ntmps12
    go_wp2_with fail
    refine MA.out.mono ?_
    rintro e w2 ⟨rfl, B2⟩
    replace B2 := hide B2
    go_wp2_with fail
    go_ret2
    exact ⟨[], none, 0, 0, 2, rfl, hasU_nil _, B2.out, .inr ⟨hu'.out, rfl, rfl⟩⟩
end Go.Proofs.Ythkfbdcocnhebaa
