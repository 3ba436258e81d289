/-
  The reference's And, But, Drop, Has.
-/
import Derived.Test.YthkfbdcocnhebaaM
namespace Go.Proofs.Ythkfbdcocnhebaa
open Go.RowKit
set_option linter.unusedVariables false
set_option linter.unusedSimpArgs false

theorem ownU_below {w w' : World} {base n : Nat} {v : Value} {xs : List Value} (h : w.ownsRow base 24 1 v n xs) (hb : Below w.heap.size w w') : w'.ownsRow base 24 1 v n xs := ownU_kept h (fun k cur _ _ e => (hb.block k (Array.getElem?_eq_some_iff.1 e).1).trans e)
theorem ownU_drewN {w : World} {base n q : Nat} {v : Value} {xs : List Value} (h : w.ownsRow base 24 1 v n xs) : (w.drewN q).ownsRow base 24 1 v n xs := h
theorem take_succ {l : List Int} {i : Nat} (hi : i < l.length) : l.take (i + 1) = l.take i ++ [l.getD i 0] := by
  rw [List.take_add_one, show l.getD i 0 = l[i] by simp [List.getD, List.getElem?_eq_getElem hi], List.getElem?_eq_getElem hi]
  rfl
theorem getD_mem {l : List Int} {i : Nat} (hi : i < l.length) : l.getD i 0 ∈ l := by
  rw [show l.getD i 0 = l[i] by simp [List.getD, List.getElem?_eq_getElem hi]]
  exact List.getElem_mem _
/-- The end: a row of one's own is handed out, with no error. -/
theorem retE_own {w w' : World} {p : Prop} {M : Int → Prop} {N : Nat} {a : Option Addr} {n c : Nat} {r : List Int} (hp : p) (hO : w'.ownsRow w.heap.size 24 1 (.slice a n c) n (r.map (Value.int .u64))) (hr : ∀ x ∈ r, 0 ≤ x ∧ x < 18446744073709551616) (hB : Below w.heap.size w w') (hu : Up r) (hm : ∀ x, x ∈ r ↔ M x) (hN : r.length ≤ N) :
    RetE w p M N (.returned (.tuple #[.slice a n c, .int .i64 0])) w' := by
  obtain ⟨a', c', e1, e2⟩ := hasU_of_owns hO hr
  cases e1
  exact ⟨r, a, n, c, 0, rfl, e2, hB, fun k hk => (hO.lt k hk).1, .inl ⟨hp, rfl, hu, hm, hN⟩⟩
set_option maxHeartbeats 4000000 in
set_option maxRecDepth 100000 in
theorem rbut_any (w : World) (a b : Option Addr) (na nb ca cb : Nat) (la lb : List Int) (Ha : HasU w a na ca la) (Hb : HasU w b nb cb lb) (hna : na ≤ 100000) (hnb : nb ≤ 100000) : Calls Try.prog 18 #[.slice a na ca, .slice b nb cb] w (RetE w (Up la ∧ Up lb) (fun x => x ∈ la ∧ x ∉ lb) (la.length + lb.length)) := by
  have C1 := hide (rcheck_any w a na ca la Ha (by omega))
  have C2 : Hid (∀ w', Below w.heap.size w w' → Calls Try.prog 16 #[.slice b nb cb] w' fun e w2 => e = .returned (.int .i64 (upE lb)) ∧ Below w'.heap.size w' w2) := fun w' hB => rcheck_any w' b nb cb lb (Hb.kept hB (Nat.le_refl _)) (by omega)
  have hla := hide Ha.hlen
  have hra := hide Ha.range
  have hKa := hide Ha
  have hKb := hide Hb
  have i1 : (na : Int) ≤ 100000 := by omega
  clear Ha Hb
  have bad : ∀ w', Below w.heap.size w w' → ¬ (Up la ∧ Up lb) → RetE w (Up la ∧ Up lb) (fun x => x ∈ la ∧ x ∉ lb) (la.length + lb.length) (.returned (.tuple #[.slice none 0 0, .int .i64 2])) w' := fun w' hB hn => ⟨[], none, 0, 0, 2, rfl, hasU_nil _, hB, fun k hk => (by cases hk), .inr ⟨hn, rfl, rfl⟩⟩
  replace bad := hide bad
  by_cases hua : Up la
  · rw [upE_ok hua] at C1
    have hua' := hide hua
    clear hua
    by_cases hub : Up lb
    · rw [upE_ok hub] at C2
      have hub' := hide hub
      clear hub
      go_enter Try.func18, Try.ntmps18
      go_wp2_with fail
      refine C1.out.mono ?_
      rintro e w1 ⟨rfl, B1⟩
      replace B1 := hide B1
      go_wp2_with fail
      refine (C2.out w1 B1.out).mono ?_
      rintro e w2 ⟨rfl, B2⟩
      have B3 : Below w.heap.size w w2 := B1.out.trans (B2.mono B1.out.size)
      have O := (owns_empty w2)
      have O' : (w2.alloc (.cells #[] 24)).ownsRow w.heap.size 24 1 (.slice (some ⟨w2.heap.size, 0, none⟩) 0 0) 0 (([] : List Int).map (Value.int .u64)) := ⟨O.1, by
        rcases O.2 with h | ⟨g, cap, cur, h1, h2, h3⟩
        · exact .inl h
        · exact .inr ⟨g, cap, cur, h1, by have := B3.size; omega, h3⟩⟩
      have B4 : Hid (Below w.heap.size w (w2.alloc (.cells #[] 24))) := B3.alloc B3.size _
      obtain ⟨w3, hw3⟩ : ∃ w3, w2.alloc (.cells #[] 24) = w3 := ⟨_, rfl⟩
      rw [hw3] at O' B4
      replace O' := hide O'
      replace hw3 := hide hw3
      clear O B2 B3
      go_wp2_with fail
      rw [hw3.out]
      go_loopw [6, 7] (fun vo vi wr => ∃ (i : Nat) (ao : Option Addr) (co : Nat) (r : List Int), i ≤ na ∧ r.length ≤ i ∧ vo = .slice ao r.length co ∧ vi = .int .i64 (i : Int) ∧ Hid (r = (la.take i).filter (fun x => decide (x ∉ lb))) ∧ Hid (wr.ownsRow w.heap.size 24 1 (.slice ao r.length co) r.length (r.map (Value.int .u64))) ∧ Hid (Below w.heap.size w wr)) (fun _ vi _ => na - (intOf vi).toNat)
      case atStart => exact ⟨0, _, _, [], Nat.zero_le _, by simp, rfl, rfl, (rfl : _ = _), O', B4⟩
      case round =>
        obtain ⟨i, ao, co, r, hi, hri, rfl, rfl, hr, hO, hB⟩ := hrel
        by_cases hlt : i < na
        · have j1 : (i : Int) < (na : Int) := by omega
          have j2 : (0 : Int) ≤ (i : Int) := by omega
          obtain ⟨bb, off, rfl, hbb, c1, c2, c3⟩ := hKa.out.at i hlt
          have c1i : wr.cell? ⟨bb, off + i, none⟩ = some (.int .u64 (la.getD i 0)) := (hB.out.cell (p := ⟨bb, off + i, none⟩) hbb).trans c1
          have IN := hide (in_any wr b nb cb lb (la.getD i 0) (hKb.out.kept hB.out (Nat.le_refl _)) (by omega))
          have hts := hide (take_succ (l := la) (i := i) (by rw [hla.out]; exact hlt))
          clear c1
          generalize la.getD i 0 = t at *
          have hsz := hB.out.size
          by_cases hin : t ∈ lb
          · rw [decide_eq_true hin] at IN
            have hr2 : Hid (r = (la.take (i + 1)).filter (fun x => decide (x ∉ lb))) := by
              show _ = _
              rw [hts.out, List.filter_append, ← hr.out]
              simp [hin]
            replace hin := hide hin
            go_wp2_with fail
            refine IN.out.mono ?_
            rintro e w5 ⟨rfl, rfl⟩
            go_wp2_with fail
            go_roundw
            case rel => exact ⟨i + 1, ao, co, r, by omega, by omega, rfl, by go_num, hr2, hO, hB⟩
            case measure => simp [intOf]; omega
          · rw [decide_eq_false hin] at IN
            have hr2 : Hid (r ++ [t] = (la.take (i + 1)).filter (fun x => decide (x ∉ lb))) := by
              show _ = _
              rw [hts.out, List.filter_append, ← hr.out]
              simp [hin]
            replace hin := hide hin
            go_wp2_with fail
            refine IN.out.mono ?_
            rintro e w5 ⟨rfl, rfl⟩
            have cn : (w5.alloc (.cells #[.int .u64 t] 24)).cell? ⟨w5.heap.size, 0, none⟩ = some (.int .u64 t) := cell_row (heap_alloc_new w5 _) 0 rfl
            have hO2 : Hid ((w5.alloc (.cells #[.int .u64 t] 24)).ownsRow w.heap.size 24 1 (.slice ao r.length co) r.length (r.map (Value.int .u64))) := owns_alloc24 hO.out _
            go_wp2_with (first | (at_builtin; refine wpList_push rfl (.tmp 30) (.tmp 35) rfl w.heap.size _ r.length r rfl hO2.out w5.heap.size t rfl cn (by omega) (by simp; omega) ?_; intro g cap w6 hO3 hg3; replace hO3 := hide hO3))
            have B6 : Hid (Below w.heap.size w w6) := (hB.out.alloc (by omega) _).grown hg3 (by simp; omega) (fun k hk => (hO2.out.lt k hk).1)
            have el : (r ++ [t]).length = r.length + 1 := by simp
            go_roundw
            case rel => exact ⟨i + 1, some ⟨g, 0, none⟩, cap, r ++ [t], by omega, by omega, by rw [el], by go_num, hr2, by rw [el]; exact hO3, B6⟩
            case measure => simp [intOf]; omega
        · obtain rfl : i = na := by omega
          have j1 : ¬ (i : Int) < (i : Int) := by omega
          have hrr := hr.out
          rw [List.take_of_length_le (by rw [hla.out]; exact Nat.le_refl _)] at hrr
          have fin := hide (retE_own (N := la.length + lb.length) (M := fun x => x ∈ la ∧ x ∉ lb) (p := Up la ∧ Up lb) ⟨hua'.out, hub'.out⟩ hO.out (fun x hx => hra.out x (List.mem_filter.1 (hrr ▸ hx)).1) hB.out (by rw [hrr]; exact up_filter hua'.out _) (fun x => by rw [hrr, List.mem_filter, decide_eq_true_iff]) (by rw [hrr]; have := List.length_filter_le (fun x => decide (x ∉ lb)) la; omega))
          clear hrr
          go_wp2_with fail
          go_ret2
          exact fin.out
    · rw [upE_no hub] at C2
      replace hub := hide hub
      go_enter Try.func18, Try.ntmps18
      go_wp2_with fail
      refine C1.out.mono ?_
      rintro e w1 ⟨rfl, B1⟩
      replace B1 := hide B1
      go_wp2_with fail
      refine (C2.out w1 B1.out).mono ?_
      rintro e w2 ⟨rfl, B2⟩
      have B3 : Hid (Below w.heap.size w w2) := B1.out.trans (B2.mono B1.out.size)
      clear B2
      go_wp2_with fail
      go_ret2
      exact bad.out _ B3.out (fun h => hub.out h.2)
  · rw [upE_no hua] at C1
    replace hua := hide hua
    go_enter Try.func18, Try.ntmps18
    go_wp2_with fail
    refine C1.out.mono ?_
    rintro e w1 ⟨rfl, B1⟩
    replace B1 := hide B1
    go_wp2_with fail
    go_ret2
    exact bad.out _ B1.out (fun h => hua.out h.1)
set_option maxHeartbeats 1000000 in
theorem rdrop_any (w : World) (a : Option Addr) (na ca : Nat) (la : List Int) (Ha : HasU w a na ca la) (hna : na ≤ 100000) (n : Int) (hn : 0 ≤ n ∧ n < 18446744073709551616) : Calls Try.prog 22 #[.slice a na ca, .int .u64 n] w (RetE w (Up la) (fun x => x ∈ la ∧ x ≠ n) (la.length + 1)) := by
  have B1 : Below w.heap.size w (w.alloc (.cells #[.int .u64 n] 24)) := (Below.refl _ w).alloc (Nat.le_refl _) _
  have h1 := Ha.hlen
  have OA := hide (rbut_any _ a _ na 1 ca 1 la [n] (Ha.kept B1 (Nat.le_refl _)) (hasU_one w n hn) (by omega) (by omega))
  replace B1 := hide B1
  clear Ha
  go_enter Try.func22, Try.ntmps22
  go_wp2_with fail
  refine OA.out.mono ?_
  intro e w3 R
  have R2 : RetE w (Up la) (fun x => x ∈ la ∧ x ≠ n) (la.length + 1) e w3 := by
    have h := RetE.iff (p' := Up la) (M' := fun x => x ∈ la ∧ x ≠ n) (N' := la.length + 1) R ⟨fun h => h.1, fun h => ⟨h, up_one n⟩⟩ (fun _ x => by simp) (by simp)
    obtain ⟨r, a3, n3, c3, er, q1, q2, q3, q4, q5⟩ := h
    exact ⟨r, a3, n3, c3, er, q1, q2, B1.out.trans (q3.mono B1.out.size), fun k hk => by have := q4 k hk; have := B1.out.size; omega, q5⟩
  clear R
  obtain ⟨r, a3, n3, c3, er, rfl, q⟩ := R2
  replace q := hide q
  go_wp2_with fail
  go_ret2
  exact ⟨r, a3, n3, c3, er, rfl, q.out⟩
/-- Whether a number is there, or that the list does not rise. -/
def RetH (w : World) (l : List Int) (x : Int) (e : Ending) (w' : World) : Prop := e = .returned (.tuple #[.bool (upB l && decide (x ∈ l)), .int .i64 (upE l)]) ∧ Below w.heap.size w w'
theorem decide_and_ok {l : List Int} {x : Int} (h : Up l) : (upB l && decide (x ∈ l)) = decide (x ∈ l) := by rw [up_iff.2 h]; rfl
theorem decide_and_no {l : List Int} {x : Int} (h : ¬ Up l) : (upB l && decide (x ∈ l)) = false := by
  cases hb : upB l with
  | false => rfl
  | true => exact (h (up_iff.1 hb)).elim
set_option maxHeartbeats 1000000 in
theorem rhas_any (w : World) (a : Option Addr) (na ca : Nat) (la : List Int) (Ha : HasU w a na ca la) (hna : na ≤ 100000) (n : Int) : Calls Try.prog 24 #[.slice a na ca, .int .u64 n] w (RetH w la n) := by
  have C1 := hide (rcheck_any w a na ca la Ha (by omega))
  have hKa := hide Ha
  clear Ha
  unfold RetH
  by_cases hu : Up la
  · rw [decide_and_ok hu, upE_ok hu]
    rw [upE_ok hu] at C1
    replace hu := hide hu
    go_enter Try.func24, Try.ntmps24
    go_wp2_with fail
    refine C1.out.mono ?_
    rintro e w1 ⟨rfl, B1⟩
    have IN := hide (in_any w1 a na ca la n (hKa.out.kept B1 (Nat.le_refl _)) (by omega))
    replace B1 := hide B1
    go_wp2_with fail
    refine IN.out.mono ?_
    rintro e w2 ⟨rfl, rfl⟩
    go_wp2_with fail
    go_ret2
    exact ⟨rfl, B1.out⟩
  · rw [decide_and_no hu, upE_no hu]
    rw [upE_no hu] at C1
    replace hu := hide hu
    go_enter Try.func24, Try.ntmps24
    go_wp2_with fail
    refine C1.out.mono ?_
    rintro e w1 ⟨rfl, B1⟩
    replace B1 := hide B1
    go_wp2_with fail
    go_ret2
    exact ⟨rfl, B1.out⟩
end Go.Proofs.Ythkfbdcocnhebaa
