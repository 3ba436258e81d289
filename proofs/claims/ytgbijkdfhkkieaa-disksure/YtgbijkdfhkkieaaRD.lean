/-
  The reference's put.
-/
import Derived.Test.YtgbijkdfhkkieaaRC
namespace Go.Proofs.Ytgbijkdfhkkieaa
open Go.RowKit Go.Maps Go.Lib
set_option linter.unusedVariables false
set_option linter.unusedSimpArgs false

theorem HasE.below {w w' : World} {a : Option Addr} {n c : Nat} {L : List Ent} (h : HasE w a n c L) (hb : Below w.heap.size w w') : HasE w' a n c L :=
  h.but (But.of_below hb (fun _ => False)) (fun _ _ _ f => f)
theorem owns2_mono {w : World} {base base' n sz : Nat} {e : TypeId} {v : Value} {xs : List Value} (h : w.ownsRow base e sz v n xs) (hb : base' ≤ base) : w.ownsRow base' e sz v n xs := by
  refine ⟨h.1, ?_⟩
  rcases h.2 with h1 | ⟨g, cap, cur, rfl, h2, h3⟩
  · exact .inl h1
  · exact .inr ⟨g, cap, cur, rfl, Nat.le_trans hb h2, h3⟩
theorem belowN {B : Nat} {a w : World} (h : Below B a w) (k : Nat) : Below B a (w.drewN k) := ⟨h.os, h.tape, h.output, h.size, h.block⟩
set_option maxHeartbeats 8000000 in
set_option maxRecDepth 100000 in
theorem rput_any {w : World} {a : Option Addr} {len cap : Nat} {L : List Ent} (h : HasE w a len cap L) (hl : len ≤ 1000000) (s : ByteArray) (f : Nat) : Calls Try.prog 73 #[.slice a len cap, .agg #[.string s, .int .i64 (f : Int)]] w (Ents w (fun x => x ∈ L ∨ x = (s, f)) (len + 1)) := by
  have hlen := h.hlen
  obtain ⟨W1, hW1⟩ : ∃ W1, w.alloc (.cells #[.string s, .int .i64 (f : Int)] 105) = W1 := ⟨_, rfl⟩
  have b1 : Below w.heap.size w W1 := by rw [← hW1]; exact (Below.refl _ w).alloc (Nat.le_refl _) _
  have s1 : W1.heap.size = w.heap.size + 1 := by rw [← hW1]; simp
  obtain ⟨y0, y1⟩ := cells2 w (.string s) (.int .i64 (f : Int)) 105
  rw [hW1] at y0 y1
  have hcells := hide (h.below b1).cells
  clear h
  have O1 := hide (ownsE_nil W1 W1.heap.size (Nat.le_refl _))
  have B1 : Hid (Below W1.heap.size W1 (W1.alloc (.cells #[] 105))) := (Below.refl _ W1).alloc (Nat.le_refl _) _
  replace b1 := hide b1
  replace s1 := hide s1
  obtain ⟨q, hq⟩ : ∃ q, w.heap.size = q := ⟨_, rfl⟩
  rw [hq] at y0 y1
  have hq1 : Hid (q < W1.heap.size ∧ W1.heap.size = w.heap.size + 1) := by
    show q < W1.heap.size ∧ W1.heap.size = w.heap.size + 1
    have := s1.out
    omega
  go_enter Try.func73, Try.ntmps73
  go_wp2_with fail
  go_loopw [5, 6, 7] (fun vv dd i wr => ∃ (k n : Nat) (ao : Option Addr) (co : Nat) (db : Bool), k ≤ len ∧ n ≤ k + (if db then 1 else 0) ∧ vv = .slice ao n co ∧ dd = .bool db ∧ i = .int .i64 (k : Int) ∧ Hid (∃ M : List Ent, wr.ownsRow W1.heap.size 105 2 (.slice ao n co) n (flatE M) ∧ ∀ x ∈ M, x ∈ L ∨ x = (s, f)) ∧ Hid (Below W1.heap.size W1 wr)) (fun _ _ i _ => len - (intOf i).toNat)
  case atStart => exact ⟨0, 0, _, _, false, Nat.zero_le _, Nat.zero_le _, rfl, rfl, rfl, ⟨[], O1.out, fun x hx => by cases hx⟩, B1⟩
  case round =>
    clear O1 B1
    obtain ⟨k, n, ao, co, db, hk, hnk, rfl, rfl, rfl, hM, hB⟩ := hrel
    have z0 : wr.cell? ⟨q, 0, none⟩ = some (.string s) := (hB.out.cell (p := ⟨q, 0, none⟩) hq1.out.1).trans y0
    have z1 : wr.cell? ⟨q, 1, none⟩ = some (.int .i64 (f : Int)) := (hB.out.cell (p := ⟨q, 1, none⟩) hq1.out.1).trans y1
    have hsz := hB.out.size
    replace y0 := hide y0
    replace y1 := hide y1
    by_cases hkl : k < len
    · obtain ⟨b, off, rfl, hbl, hcl⟩ := hcells.out (by omega)
      have i1 : (k : Int) < len := by omega
      have c0 : wr.cell? ⟨b, off + k * 2, none⟩ = some (.string (L.getD k noEnt).1) := (hB.out.cell (p := ⟨b, off + k * 2, none⟩) hbl).trans (hcl k hkl).1
      have c1 : wr.cell? ⟨b, off + k * 2 + 1, none⟩ = some (.int .i64 ((L.getD k noEnt).2 : Int)) := (hB.out.cell (p := ⟨b, off + k * 2 + 1, none⟩) hbl).trans (hcl k hkl).2
      have d0 := hide (hcl k hkl).1
      have d1 := hide (hcl k hkl).2
      have hbl2 : Hid (b < W1.heap.size) := hbl
      have hmem := hide (getD_mem (L := L) (k := k) (by omega))
      generalize L.getD k noEnt = x at c0 c1 d0 d1 hmem
      obtain ⟨x0, x1⟩ := x
      simp only at c0 c1 d0 d1
      clear hcl
      obtain ⟨M, hR, hMm⟩ := hM.out
      replace hR := hide hR
      replace hMm := hide hMm
      clear hM
      cases db with
      | true =>
        replace hnk : n ≤ k + 1 := by simpa using hnk
        go_wp2_with fail
        go_quiet (fail)
        obtain ⟨w6, hw6⟩ : ∃ x, wr.drewN nq = x := ⟨_, rfl⟩
        have R6 : Hid (w6.ownsRow W1.heap.size 105 2 (.slice ao n co) (n) (flatE (M))) := by rw [← hw6]; exact hR.out
        have B6 : Hid (Below W1.heap.size W1 w6) := by rw [← hw6]; exact belowN hB.out nq
        rw [hw6]
        clear hw6 c0 c1 z0 z1 nq
        have c0 : w6.cell? ⟨b, off + k * 2, none⟩ = some (.string x0) := (B6.out.cell (p := ⟨b, off + k * 2, none⟩) hbl2.out).trans d0.out
        have c1 : w6.cell? ⟨b, off + k * 2 + 1, none⟩ = some (.int .i64 (x1 : Int)) := (B6.out.cell (p := ⟨b, off + k * 2 + 1, none⟩) hbl2.out).trans d1.out
        have z0 : w6.cell? ⟨q, 0, none⟩ = some (.string s) := (B6.out.cell (p := ⟨q, 0, none⟩) hq1.out.1).trans y0.out
        have z1 : w6.cell? ⟨q, 1, none⟩ = some (.int .i64 (f : Int)) := (B6.out.cell (p := ⟨q, 1, none⟩) hq1.out.1).trans y1.out
        go_wp2_with fail
        by_cases he : x0 = s
        · have e1 : (ByteArray.toList x0 == ByteArray.toList s) = true := by rw [he]; simp
          have e2 : (ByteArray.toList x0 != ByteArray.toList s) = false := by rw [he]; simp
          replace he := hide he
          go_quiet (fail)
          obtain ⟨w9, hw9⟩ : ∃ x, w6.drewN nq = x := ⟨_, rfl⟩
          have R9 : Hid (w9.ownsRow W1.heap.size 105 2 (.slice ao n co) (n) (flatE (M))) := by rw [← hw9]; exact R6.out
          have B9 : Hid (Below W1.heap.size W1 w9) := by rw [← hw9]; exact belowN B6.out nq
          rw [hw9]
          clear hw9 c0 c1 z0 z1 nq
          have c0 : w9.cell? ⟨b, off + k * 2, none⟩ = some (.string x0) := (B9.out.cell (p := ⟨b, off + k * 2, none⟩) hbl2.out).trans d0.out
          have c1 : w9.cell? ⟨b, off + k * 2 + 1, none⟩ = some (.int .i64 (x1 : Int)) := (B9.out.cell (p := ⟨b, off + k * 2 + 1, none⟩) hbl2.out).trans d1.out
          have z0 : w9.cell? ⟨q, 0, none⟩ = some (.string s) := (B9.out.cell (p := ⟨q, 0, none⟩) hq1.out.1).trans y0.out
          have z1 : w9.cell? ⟨q, 1, none⟩ = some (.int .i64 (f : Int)) := (B9.out.cell (p := ⟨q, 1, none⟩) hq1.out.1).trans y1.out
          go_wp2_with fail
          go_roundw
          case rel => exact ⟨k + 1, n, _, _, true, by omega, by (simp; omega), rfl, rfl, by go_num, ⟨M, R9.out, hMm.out⟩, B9⟩
          case measure => simp [intOf]; omega
        · have hne : ¬ ByteArray.toList x0 = ByteArray.toList s := fun e => he ((str_ext _ _).1 e)
          have e2 : (ByteArray.toList x0 != ByteArray.toList s) = true := bne_iff_ne.2 hne
          have e1 : (ByteArray.toList x0 == ByteArray.toList s) = false := beq_eq_false_iff_ne.2 hne
          replace he := hide he
          replace hne := hide hne
          go_quiet (fail)
          obtain ⟨w9, hw9⟩ : ∃ x, w6.drewN nq = x := ⟨_, rfl⟩
          have R9 : Hid (w9.ownsRow W1.heap.size 105 2 (.slice ao n co) (n) (flatE (M))) := by rw [← hw9]; exact R6.out
          have B9 : Hid (Below W1.heap.size W1 w9) := by rw [← hw9]; exact belowN B6.out nq
          rw [hw9]
          clear hw9 c0 c1 z0 z1 nq
          have c0 : w9.cell? ⟨b, off + k * 2, none⟩ = some (.string x0) := (B9.out.cell (p := ⟨b, off + k * 2, none⟩) hbl2.out).trans d0.out
          have c1 : w9.cell? ⟨b, off + k * 2 + 1, none⟩ = some (.int .i64 (x1 : Int)) := (B9.out.cell (p := ⟨b, off + k * 2 + 1, none⟩) hbl2.out).trans d1.out
          have z0 : w9.cell? ⟨q, 0, none⟩ = some (.string s) := (B9.out.cell (p := ⟨q, 0, none⟩) hq1.out.1).trans y0.out
          have z1 : w9.cell? ⟨q, 1, none⟩ = some (.int .i64 (f : Int)) := (B9.out.cell (p := ⟨q, 1, none⟩) hq1.out.1).trans y1.out
          have ccOA := hide (cells2 w9 (.string x0) (.int .i64 (x1 : Int)) 105)
          have hZOA : Hid (W1.heap.size ≤ (w9.alloc (.cells #[(.string x0), (.int .i64 (x1 : Int))] 105)).heap.size) := by show _ ≤ _; have := B9.out.size; simp; omega
          go_wp2_with (first
            | (refine wpList_appE rfl (.tmp 39) (.tmp 44) rfl W1.heap.size _ (n) (M) rfl (R9.out.alloc _) w9.heap.size 1 (x0, x1) rfl ccOA.out.1 ccOA.out.2 (by omega) hZOA.out ?_
               intro v8 WA OA G8
               have BA := hide ((B9.out.alloc B9.out.size _).grown G8 hZOA.out (fun q e => (R9.out.lt q e).1))
               obtain ⟨aA, cA, e8⟩ := slice_of_owns2 OA
               subst e8
               replace OA := hide OA
               clear G8 c0 c1 z0 z1
               have c0 : WA.cell? ⟨b, off + k * 2, none⟩ = some (.string x0) := (BA.out.cell (p := ⟨b, off + k * 2, none⟩) hbl2.out).trans d0.out
               have c1 : WA.cell? ⟨b, off + k * 2 + 1, none⟩ = some (.int .i64 (x1 : Int)) := (BA.out.cell (p := ⟨b, off + k * 2 + 1, none⟩) hbl2.out).trans d1.out
               have z0 : WA.cell? ⟨q, 0, none⟩ = some (.string s) := (BA.out.cell (p := ⟨q, 0, none⟩) hq1.out.1).trans y0.out
               have z1 : WA.cell? ⟨q, 1, none⟩ = some (.int .i64 (f : Int)) := (BA.out.cell (p := ⟨q, 1, none⟩) hq1.out.1).trans y1.out))
          go_roundw
          case rel => exact ⟨k + 1, n + 1, aA, cA, true, by omega, by (simp; omega), rfl, rfl, by go_num, ⟨(M) ++ [(x0, x1)], OA.out, fun z hz => by
            rcases List.mem_append.1 hz with hz | hz
            · exact (hMm.out) z hz
            · rw [List.mem_singleton.1 hz]; exact .inl hmem.out⟩, BA⟩
          case measure => simp [intOf]; omega
      | false =>
        replace hnk : n ≤ k := by simpa using hnk
        cases hls : Op.bytesLess (ByteArray.toList x0) (ByteArray.toList s) with
        | true =>
          go_wp2_with fail
          go_quiet (fail)
          obtain ⟨w6, hw6⟩ : ∃ x, wr.drewN nq = x := ⟨_, rfl⟩
          have R6 : Hid (w6.ownsRow W1.heap.size 105 2 (.slice ao n co) (n) (flatE (M))) := by rw [← hw6]; exact hR.out
          have B6 : Hid (Below W1.heap.size W1 w6) := by rw [← hw6]; exact belowN hB.out nq
          rw [hw6]
          clear hw6 c0 c1 z0 z1 nq
          have c0 : w6.cell? ⟨b, off + k * 2, none⟩ = some (.string x0) := (B6.out.cell (p := ⟨b, off + k * 2, none⟩) hbl2.out).trans d0.out
          have c1 : w6.cell? ⟨b, off + k * 2 + 1, none⟩ = some (.int .i64 (x1 : Int)) := (B6.out.cell (p := ⟨b, off + k * 2 + 1, none⟩) hbl2.out).trans d1.out
          have z0 : w6.cell? ⟨q, 0, none⟩ = some (.string s) := (B6.out.cell (p := ⟨q, 0, none⟩) hq1.out.1).trans y0.out
          have z1 : w6.cell? ⟨q, 1, none⟩ = some (.int .i64 (f : Int)) := (B6.out.cell (p := ⟨q, 1, none⟩) hq1.out.1).trans y1.out
          go_wp2_with fail
          by_cases he : x0 = s
          · have e1 : (ByteArray.toList x0 == ByteArray.toList s) = true := by rw [he]; simp
            have e2 : (ByteArray.toList x0 != ByteArray.toList s) = false := by rw [he]; simp
            replace he := hide he
            go_quiet (fail)
            obtain ⟨w9, hw9⟩ : ∃ x, w6.drewN nq = x := ⟨_, rfl⟩
            have R9 : Hid (w9.ownsRow W1.heap.size 105 2 (.slice ao n co) (n) (flatE (M))) := by rw [← hw9]; exact R6.out
            have B9 : Hid (Below W1.heap.size W1 w9) := by rw [← hw9]; exact belowN B6.out nq
            rw [hw9]
            clear hw9 c0 c1 z0 z1 nq
            have c0 : w9.cell? ⟨b, off + k * 2, none⟩ = some (.string x0) := (B9.out.cell (p := ⟨b, off + k * 2, none⟩) hbl2.out).trans d0.out
            have c1 : w9.cell? ⟨b, off + k * 2 + 1, none⟩ = some (.int .i64 (x1 : Int)) := (B9.out.cell (p := ⟨b, off + k * 2 + 1, none⟩) hbl2.out).trans d1.out
            have z0 : w9.cell? ⟨q, 0, none⟩ = some (.string s) := (B9.out.cell (p := ⟨q, 0, none⟩) hq1.out.1).trans y0.out
            have z1 : w9.cell? ⟨q, 1, none⟩ = some (.int .i64 (f : Int)) := (B9.out.cell (p := ⟨q, 1, none⟩) hq1.out.1).trans y1.out
            go_wp2_with fail
            go_roundw
            case rel => exact ⟨k + 1, n, _, _, false, by omega, by (simp; omega), rfl, rfl, by go_num, ⟨M, R9.out, hMm.out⟩, B9⟩
            case measure => simp [intOf]; omega
          · have hne : ¬ ByteArray.toList x0 = ByteArray.toList s := fun e => he ((str_ext _ _).1 e)
            have e2 : (ByteArray.toList x0 != ByteArray.toList s) = true := bne_iff_ne.2 hne
            have e1 : (ByteArray.toList x0 == ByteArray.toList s) = false := beq_eq_false_iff_ne.2 hne
            replace he := hide he
            replace hne := hide hne
            go_quiet (fail)
            obtain ⟨w9, hw9⟩ : ∃ x, w6.drewN nq = x := ⟨_, rfl⟩
            have R9 : Hid (w9.ownsRow W1.heap.size 105 2 (.slice ao n co) (n) (flatE (M))) := by rw [← hw9]; exact R6.out
            have B9 : Hid (Below W1.heap.size W1 w9) := by rw [← hw9]; exact belowN B6.out nq
            rw [hw9]
            clear hw9 c0 c1 z0 z1 nq
            have c0 : w9.cell? ⟨b, off + k * 2, none⟩ = some (.string x0) := (B9.out.cell (p := ⟨b, off + k * 2, none⟩) hbl2.out).trans d0.out
            have c1 : w9.cell? ⟨b, off + k * 2 + 1, none⟩ = some (.int .i64 (x1 : Int)) := (B9.out.cell (p := ⟨b, off + k * 2 + 1, none⟩) hbl2.out).trans d1.out
            have z0 : w9.cell? ⟨q, 0, none⟩ = some (.string s) := (B9.out.cell (p := ⟨q, 0, none⟩) hq1.out.1).trans y0.out
            have z1 : w9.cell? ⟨q, 1, none⟩ = some (.int .i64 (f : Int)) := (B9.out.cell (p := ⟨q, 1, none⟩) hq1.out.1).trans y1.out
            have ccOA := hide (cells2 w9 (.string x0) (.int .i64 (x1 : Int)) 105)
            have hZOA : Hid (W1.heap.size ≤ (w9.alloc (.cells #[(.string x0), (.int .i64 (x1 : Int))] 105)).heap.size) := by show _ ≤ _; have := B9.out.size; simp; omega
            go_wp2_with (first
              | (refine wpList_appE rfl (.tmp 39) (.tmp 44) rfl W1.heap.size _ (n) (M) rfl (R9.out.alloc _) w9.heap.size 1 (x0, x1) rfl ccOA.out.1 ccOA.out.2 (by omega) hZOA.out ?_
                 intro v8 WA OA G8
                 have BA := hide ((B9.out.alloc B9.out.size _).grown G8 hZOA.out (fun q e => (R9.out.lt q e).1))
                 obtain ⟨aA, cA, e8⟩ := slice_of_owns2 OA
                 subst e8
                 replace OA := hide OA
                 clear G8 c0 c1 z0 z1
                 have c0 : WA.cell? ⟨b, off + k * 2, none⟩ = some (.string x0) := (BA.out.cell (p := ⟨b, off + k * 2, none⟩) hbl2.out).trans d0.out
                 have c1 : WA.cell? ⟨b, off + k * 2 + 1, none⟩ = some (.int .i64 (x1 : Int)) := (BA.out.cell (p := ⟨b, off + k * 2 + 1, none⟩) hbl2.out).trans d1.out
                 have z0 : WA.cell? ⟨q, 0, none⟩ = some (.string s) := (BA.out.cell (p := ⟨q, 0, none⟩) hq1.out.1).trans y0.out
                 have z1 : WA.cell? ⟨q, 1, none⟩ = some (.int .i64 (f : Int)) := (BA.out.cell (p := ⟨q, 1, none⟩) hq1.out.1).trans y1.out))
            go_roundw
            case rel => exact ⟨k + 1, n + 1, aA, cA, false, by omega, by (simp; omega), rfl, rfl, by go_num, ⟨(M) ++ [(x0, x1)], OA.out, fun z hz => by
              rcases List.mem_append.1 hz with hz | hz
              · exact (hMm.out) z hz
              · rw [List.mem_singleton.1 hz]; exact .inl hmem.out⟩, BA⟩
            case measure => simp [intOf]; omega
        | false =>
          go_wp2_with fail
          go_quiet (fail)
          obtain ⟨w6, hw6⟩ : ∃ x, wr.drewN nq = x := ⟨_, rfl⟩
          have R6 : Hid (w6.ownsRow W1.heap.size 105 2 (.slice ao n co) (n) (flatE (M))) := by rw [← hw6]; exact hR.out
          have B6 : Hid (Below W1.heap.size W1 w6) := by rw [← hw6]; exact belowN hB.out nq
          rw [hw6]
          clear hw6 c0 c1 z0 z1 nq
          have c0 : w6.cell? ⟨b, off + k * 2, none⟩ = some (.string x0) := (B6.out.cell (p := ⟨b, off + k * 2, none⟩) hbl2.out).trans d0.out
          have c1 : w6.cell? ⟨b, off + k * 2 + 1, none⟩ = some (.int .i64 (x1 : Int)) := (B6.out.cell (p := ⟨b, off + k * 2 + 1, none⟩) hbl2.out).trans d1.out
          have z0 : w6.cell? ⟨q, 0, none⟩ = some (.string s) := (B6.out.cell (p := ⟨q, 0, none⟩) hq1.out.1).trans y0.out
          have z1 : w6.cell? ⟨q, 1, none⟩ = some (.int .i64 (f : Int)) := (B6.out.cell (p := ⟨q, 1, none⟩) hq1.out.1).trans y1.out
          have ccO7 := hide (cells2 w6 (.string s) (.int .i64 (f : Int)) 105)
          have hZO7 : Hid (W1.heap.size ≤ (w6.alloc (.cells #[(.string s), (.int .i64 (f : Int))] 105)).heap.size) := by show _ ≤ _; have := B6.out.size; simp; omega
          go_wp2_with (first
            | (refine wpList_appE rfl (.tmp 27) (.tmp 29) rfl W1.heap.size _ (n) (M) rfl (R6.out.alloc _) w6.heap.size 1 (s, f) rfl ccO7.out.1 ccO7.out.2 (by omega) hZO7.out ?_
               intro v8 W7 O7 G8
               have B7 := hide ((B6.out.alloc B6.out.size _).grown G8 hZO7.out (fun q e => (R6.out.lt q e).1))
               obtain ⟨a7, c7, e8⟩ := slice_of_owns2 O7
               subst e8
               replace O7 := hide O7
               clear G8 c0 c1 z0 z1
               have c0 : W7.cell? ⟨b, off + k * 2, none⟩ = some (.string x0) := (B7.out.cell (p := ⟨b, off + k * 2, none⟩) hbl2.out).trans d0.out
               have c1 : W7.cell? ⟨b, off + k * 2 + 1, none⟩ = some (.int .i64 (x1 : Int)) := (B7.out.cell (p := ⟨b, off + k * 2 + 1, none⟩) hbl2.out).trans d1.out
               have z0 : W7.cell? ⟨q, 0, none⟩ = some (.string s) := (B7.out.cell (p := ⟨q, 0, none⟩) hq1.out.1).trans y0.out
               have z1 : W7.cell? ⟨q, 1, none⟩ = some (.int .i64 (f : Int)) := (B7.out.cell (p := ⟨q, 1, none⟩) hq1.out.1).trans y1.out))
          have hM7 : Hid (∀ x ∈ M ++ [(s, f)], x ∈ L ∨ x = (s, f)) := fun z hz => by
            rcases List.mem_append.1 hz with hz | hz
            · exact hMm.out z hz
            · exact .inr (List.mem_singleton.1 hz)
          by_cases he : x0 = s
          · have e1 : (ByteArray.toList x0 == ByteArray.toList s) = true := by rw [he]; simp
            have e2 : (ByteArray.toList x0 != ByteArray.toList s) = false := by rw [he]; simp
            replace he := hide he
            go_quiet (fail)
            obtain ⟨w9, hw9⟩ : ∃ x, W7.drewN nq = x := ⟨_, rfl⟩
            have R9 : Hid (w9.ownsRow W1.heap.size 105 2 (.slice a7 (n + 1) c7) (n + 1) (flatE (M ++ [(s, f)]))) := by rw [← hw9]; exact O7.out
            have B9 : Hid (Below W1.heap.size W1 w9) := by rw [← hw9]; exact belowN B7.out nq
            rw [hw9]
            clear hw9 c0 c1 z0 z1 nq
            have c0 : w9.cell? ⟨b, off + k * 2, none⟩ = some (.string x0) := (B9.out.cell (p := ⟨b, off + k * 2, none⟩) hbl2.out).trans d0.out
            have c1 : w9.cell? ⟨b, off + k * 2 + 1, none⟩ = some (.int .i64 (x1 : Int)) := (B9.out.cell (p := ⟨b, off + k * 2 + 1, none⟩) hbl2.out).trans d1.out
            have z0 : w9.cell? ⟨q, 0, none⟩ = some (.string s) := (B9.out.cell (p := ⟨q, 0, none⟩) hq1.out.1).trans y0.out
            have z1 : w9.cell? ⟨q, 1, none⟩ = some (.int .i64 (f : Int)) := (B9.out.cell (p := ⟨q, 1, none⟩) hq1.out.1).trans y1.out
            go_wp2_with fail
            go_roundw
            case rel => exact ⟨k + 1, n + 1, _, _, true, by omega, by (simp; omega), rfl, rfl, by go_num, ⟨M ++ [(s, f)], R9.out, hM7.out⟩, B9⟩
            case measure => simp [intOf]; omega
          · have hne : ¬ ByteArray.toList x0 = ByteArray.toList s := fun e => he ((str_ext _ _).1 e)
            have e2 : (ByteArray.toList x0 != ByteArray.toList s) = true := bne_iff_ne.2 hne
            have e1 : (ByteArray.toList x0 == ByteArray.toList s) = false := beq_eq_false_iff_ne.2 hne
            replace he := hide he
            replace hne := hide hne
            go_quiet (fail)
            obtain ⟨w9, hw9⟩ : ∃ x, W7.drewN nq = x := ⟨_, rfl⟩
            have R9 : Hid (w9.ownsRow W1.heap.size 105 2 (.slice a7 (n + 1) c7) (n + 1) (flatE (M ++ [(s, f)]))) := by rw [← hw9]; exact O7.out
            have B9 : Hid (Below W1.heap.size W1 w9) := by rw [← hw9]; exact belowN B7.out nq
            rw [hw9]
            clear hw9 c0 c1 z0 z1 nq
            have c0 : w9.cell? ⟨b, off + k * 2, none⟩ = some (.string x0) := (B9.out.cell (p := ⟨b, off + k * 2, none⟩) hbl2.out).trans d0.out
            have c1 : w9.cell? ⟨b, off + k * 2 + 1, none⟩ = some (.int .i64 (x1 : Int)) := (B9.out.cell (p := ⟨b, off + k * 2 + 1, none⟩) hbl2.out).trans d1.out
            have z0 : w9.cell? ⟨q, 0, none⟩ = some (.string s) := (B9.out.cell (p := ⟨q, 0, none⟩) hq1.out.1).trans y0.out
            have z1 : w9.cell? ⟨q, 1, none⟩ = some (.int .i64 (f : Int)) := (B9.out.cell (p := ⟨q, 1, none⟩) hq1.out.1).trans y1.out
            have ccOA := hide (cells2 w9 (.string x0) (.int .i64 (x1 : Int)) 105)
            have hZOA : Hid (W1.heap.size ≤ (w9.alloc (.cells #[(.string x0), (.int .i64 (x1 : Int))] 105)).heap.size) := by show _ ≤ _; have := B9.out.size; simp; omega
            go_wp2_with (first
              | (refine wpList_appE rfl (.tmp 39) (.tmp 44) rfl W1.heap.size _ (n + 1) (M ++ [(s, f)]) rfl (R9.out.alloc _) w9.heap.size 1 (x0, x1) rfl ccOA.out.1 ccOA.out.2 (by omega) hZOA.out ?_
                 intro v8 WA OA G8
                 have BA := hide ((B9.out.alloc B9.out.size _).grown G8 hZOA.out (fun q e => (R9.out.lt q e).1))
                 obtain ⟨aA, cA, e8⟩ := slice_of_owns2 OA
                 subst e8
                 replace OA := hide OA
                 clear G8 c0 c1 z0 z1
                 have c0 : WA.cell? ⟨b, off + k * 2, none⟩ = some (.string x0) := (BA.out.cell (p := ⟨b, off + k * 2, none⟩) hbl2.out).trans d0.out
                 have c1 : WA.cell? ⟨b, off + k * 2 + 1, none⟩ = some (.int .i64 (x1 : Int)) := (BA.out.cell (p := ⟨b, off + k * 2 + 1, none⟩) hbl2.out).trans d1.out
                 have z0 : WA.cell? ⟨q, 0, none⟩ = some (.string s) := (BA.out.cell (p := ⟨q, 0, none⟩) hq1.out.1).trans y0.out
                 have z1 : WA.cell? ⟨q, 1, none⟩ = some (.int .i64 (f : Int)) := (BA.out.cell (p := ⟨q, 1, none⟩) hq1.out.1).trans y1.out))
            go_roundw
            case rel => exact ⟨k + 1, n + 1 + 1, aA, cA, true, by omega, by (simp; omega), rfl, rfl, by go_num, ⟨(M ++ [(s, f)]) ++ [(x0, x1)], OA.out, fun z hz => by
              rcases List.mem_append.1 hz with hz | hz
              · exact (hM7.out) z hz
              · rw [List.mem_singleton.1 hz]; exact .inl hmem.out⟩, BA⟩
            case measure => simp [intOf]; omega
    · have i1 : ¬ ((k : Int) < len) := by omega
      obtain ⟨M, hR, hMm⟩ := hM.out
      replace hR := hide hR
      replace hMm := hide hMm
      clear hM
      have up : ∀ (ao : Option Addr) (n c : Nat) (L' : List Ent) (wz : World), wz.ownsRow W1.heap.size 105 2 (.slice ao n c) n (flatE L') → Below W1.heap.size W1 wz → (∀ x ∈ L', x ∈ L ∨ x = (s, f)) → n ≤ len + 1 → Ents w (fun x => x ∈ L ∨ x = (s, f)) (len + 1) (.returned (.slice ao n c)) wz := fun ao n c L' wz o1 o2 o3 o4 => by
        have hs := hq1.out.2
        exact ents_of (owns2_mono o1 (by omega)) (b1.out.trans (o2.mono (by omega))) o3 o4
      cases db with
      | true =>
        replace hnk : n ≤ k + 1 := by simpa using hnk
        replace up := hide up
        go_wp2_with fail
        go_ret
        exact up.out _ _ _ _ _ hR.out hB.out hMm.out (by omega)
      | false =>
        replace hnk : n ≤ k := by simpa using hnk
        replace up := hide up
        have ccO := hide (cells2 wr (.string s) (.int .i64 (f : Int)) 105)
        have hZO : Hid (W1.heap.size ≤ (wr.alloc (.cells #[(.string s), (.int .i64 (f : Int))] 105)).heap.size) := by show _ ≤ _; have := hB.out.size; simp; omega
        go_wp2_with (first
          | (refine wpList_appE rfl (.tmp 48) (.tmp 50) rfl W1.heap.size _ n M rfl (hR.out.alloc _) wr.heap.size 1 (s, f) rfl ccO.out.1 ccO.out.2 (by omega) hZO.out ?_
             intro v8 W8 O8 G8
             have B8 := hide ((hB.out.alloc hB.out.size _).grown G8 hZO.out (fun q e => (hR.out.lt q e).1))
             obtain ⟨a8, c8, e8⟩ := slice_of_owns2 O8
             subst e8
             replace O8 := hide O8
             clear G8))
        go_ret
        exact up.out _ _ _ _ _ O8.out B8.out (fun z hz => by
          rcases List.mem_append.1 hz with hz | hz
          · exact hMm.out z hz
          · exact .inr (List.mem_singleton.1 hz)) (by omega)
end Go.Proofs.Ytgbijkdfhkkieaa
