/-
  Slices of numbers in memory; same, Check, the reference's Check, own, slices.Clone.
-/
import Derived.Test.YthkfbdcocnhebaaChecked
import Derived.Test.YthkfbdcocnhebaaNum
import Derived.WalkKit
import Derived.WalkLawsBesides
import Derived.Laws.CopyOwn
import Derived.Laws.AppendOwnNone
import Derived.Laws.OwnMore
import Derived.BigQuiet
import Derived.Deep.QuietTactic
namespace Go.Proofs.Ythkfbdcocnhebaa
open Go.RowKit
set_option linter.unusedVariables false
set_option linter.unusedSimpArgs false

theorem hide {p : Prop} (h : p) : Hid p := h
theorem w64 (n : Int) (h : -9223372036854775808 ≤ n ∧ n ≤ 9223372036854775807) : wrap64 n = n := by unfold wrap64; omega
theorem add_plain (b off j : Nat) : (⟨b, off, none⟩ : Addr).add j = ⟨b, off + j, none⟩ := by unfold Addr.add; split <;> simp_all
theorem below_drewN {w w' : World} {B : Nat} (h : Below B w w') (n : Nat) : Below B w (w'.drewN n) := ⟨h.os, h.tape, h.output, h.size, h.block⟩
theorem below_drew {w w' : World} {B : Nat} (h : Below B w w') : Below B w w'.drew := ⟨h.os, h.tape, h.output, h.size, h.block⟩
theorem ret_bool {a b : Bool} (h : a = b) : Ending.returned (.bool a) = .returned (.bool b) := by rw [h]

/-- In the world w the slice (a, len, cap) has the numbers l. -/
structure HasU (w : World) (a : Option Addr) (len cap : Nat) (l : List Int) : Prop where
  hlen : l.length = len
  le : len ≤ cap
  capb : cap ≤ maxLen
  nil : a = none → cap = 0
  cells : 0 < len → ∃ b off, a = some ⟨b, off, none⟩ ∧ b < w.heap.size ∧ ∀ i, i < len → w.cell? ⟨b, off + i, none⟩ = some (.int .u64 (l.getD i 0))
  range : ∀ x ∈ l, 0 ≤ x ∧ x < 18446744073709551616
section
variable {w w' : World} {a : Option Addr} {len cap : Nat} {l : List Int}
theorem HasU.blocks (h : HasU w a len cap l) (hs : w.heap.size ≤ w'.heap.size) (hb : ∀ k, k < w.heap.size → w'.heap[k]? = w.heap[k]?) : HasU w' a len cap l := by
  refine ⟨h.hlen, h.le, h.capb, h.nil, fun hp => ?_, h.range⟩
  obtain ⟨b, off, e1, e2, e3⟩ := h.cells hp
  exact ⟨b, off, e1, Nat.lt_of_lt_of_le e2 hs, fun i hi => (World.cell?_of_block (hb b e2)).trans (e3 i hi)⟩
theorem HasU.kept {B : Nat} (h : HasU w a len cap l) (hb : Below B w w') (hB : w.heap.size ≤ B) : HasU w' a len cap l := h.blocks hb.size (fun k hk => hb.block k (by omega))
theorem hasU_nil (w : World) : HasU w none 0 0 [] := ⟨rfl, Nat.le_refl _, Nat.zero_le _, fun _ => rfl, fun h => by omega, fun x hx => by simp at hx⟩
theorem HasU.front (h : HasU w a len cap l) (k : Nat) (hk : k ≤ len) : HasU w a k cap (l.take k) := by
  have hl := h.hlen
  refine ⟨by simp; omega, Nat.le_trans hk h.le, h.capb, h.nil, fun hp => ?_, fun x hx => h.range x (List.mem_of_mem_take hx)⟩
  obtain ⟨b, off, e1, e2, e3⟩ := h.cells (by omega)
  refine ⟨b, off, e1, e2, fun i hi => ?_⟩
  rw [e3 i (by omega)]
  simp [List.getD, hi]
theorem HasU.empty (h : HasU w a 0 cap l) : l = [] := List.eq_nil_of_length_eq_zero h.hlen
theorem HasU.at (h : HasU w a len cap l) (i : Nat) (hi : i < len) : ∃ b off, a = some ⟨b, off, none⟩ ∧ b < w.heap.size ∧ w.cell? ⟨b, off + i, none⟩ = some (.int .u64 (l.getD i 0)) ∧ 0 ≤ l.getD i 0 ∧ l.getD i 0 < 18446744073709551616 := by
  obtain ⟨b, off, e1, e2, e3⟩ := h.cells (by omega)
  have hl := h.hlen
  refine ⟨b, off, e1, e2, e3 i hi, ?_⟩
  have : l.getD i 0 ∈ l := by
    rw [show l.getD i 0 = l[i]'(by omega) by simp [List.getD, List.getElem?_eq_getElem (show i < l.length by omega)]]
    exact List.getElem_mem _
  exact h.range _ this
theorem list_ext {l m : List Int} (h : l.length = m.length) (k : ∀ i, i < l.length → l.getD i 0 = m.getD i 0) : l = m := by
  apply List.ext_getElem h
  intro i h1 h2
  have := k i h1
  simpa [List.getD, List.getElem?_eq_getElem h1, List.getElem?_eq_getElem h2] using this
end
theorem info24 : (Try.prog.info? 24).map (fun i => (i.zero, i.size, i.bytes)) = some (some (.int .u64 0), 1, 8) := by kernel_rfl
theorem nums_oneCell (l : List Int) : ∀ u ∈ l.map (Value.int .u64), u.oneCell' = true := by
  intro u hu; obtain ⟨x, _, rfl⟩ := List.mem_map.1 hu; rfl
/-- A row of one's own has its numbers. -/
theorem hasU_of_owns {w : World} {base : Nat} {v : Value} {n : Nat} {l : List Int} (h : w.ownsRow base 24 1 v n (l.map (Value.int .u64))) (hr : ∀ x ∈ l, 0 ≤ x ∧ x < 18446744073709551616) :
    ∃ a cap, v = .slice a n cap ∧ HasU w a n cap l := by
  have hlen : l.length = n := by simpa using h.1
  rcases h.2 with ⟨rfl, rfl⟩ | ⟨g, cap, cur, rfl, hbg, hg, hnc, hcm, hcs, htake⟩
  · exact ⟨none, 0, rfl, hlen, Nat.le_refl _, Nat.zero_le _, fun _ => rfl, fun h => by omega, hr⟩
  · refine ⟨some ⟨g, 0, none⟩, cap, rfl, hlen, hnc, hcm, (fun h => by cases h), fun hp => ⟨g, 0, rfl, ?_, fun i hi => ?_⟩, hr⟩
    · exact (Array.getElem?_eq_some_iff.1 hg).1
    · have := h.cells (g := g) rfl i (.int .u64 (l.getD i 0)) (by
        have hi' : i < l.length := by omega
        simp [List.getD, List.getElem?_eq_getElem hi'])
      rwa [add_plain] at this
theorem hasU_cells {w : World} {ad : Addr} {len cap : Nat} {l : List Int} (H : HasU w (some ad) len cap l) : ∀ j u, (l.map (Value.int .u64))[j]? = some u → w.cell? (ad.add j) = some u := by
  intro j u hj
  have hll := H.hlen
  have hjl : j < l.length := by
    rcases Nat.lt_or_ge j l.length with h | h
    · exact h
    · rw [List.getElem?_eq_none (by simpa using h)] at hj; cases hj
  obtain ⟨b, off, e1, e2, e3⟩ := H.cells (by omega)
  cases e1
  rw [List.getElem?_map, List.getElem?_eq_getElem hjl] at hj
  simp only [Option.map_some, Option.some.injEq] at hj
  subst hj
  rw [add_plain, e3 j (by omega)]
  simp [List.getD, List.getElem?_eq_getElem hjl]
/-- How a call ends that hands out numbers in a new row (or none). -/
def RetU (w : World) (l : List Int) (e : Ending) (w' : World) : Prop := ∃ a n c, e = .returned (.slice a n c) ∧ HasU w' a n c l ∧ Below w.heap.size w w' ∧ (∀ k, (Value.slice a n c).ownBlock = some k → w.heap.size ≤ k)

/-- append of numbers to an empty row. -/
theorem wpList_appU {w : World} {ops : Array Oper} {rest : List Oper} {o : Oper} {a : Act} {Q : Exit → Act → World → Prop} (hgd : o.guard = none) (s x : Operand)
    (ho : o.op = .call { callee := .builtin .append, args := #[s, x], argTypes := #[23, 23] }) (base g : Nat) (hs : a.eval s = .slice (some ⟨g, 0, none⟩) 0 0) (hown : w.ownsRow base 24 1 (.slice (some ⟨g, 0, none⟩) 0 0) 0 (([] : List Int).map (Value.int .u64)))
    (ad : Option Addr) (len cap : Nat) (l : List Int) (hx : a.eval x = .slice ad len cap) (H : HasU w ad len cap l) (hb : len ≤ 1000000000) (hbase : base ≤ w.heap.size)
    (h : ∀ a' cap' w', HasU w' a' len cap' l → Below base w w' → w'.ownsRow base 24 1 (.slice a' len cap') len (l.map (Value.int .u64)) → wpList Try.prog ops Q rest (a.put o.dst (.slice a' len cap')) w') :
    wpList Try.prog ops Q (o :: rest) a w := by
  obtain ⟨i0, hi, hz0, hz1, hz2⟩ := info_parts info24
  have hle := H.le
  have hll := H.hlen
  cases ad with
  | none =>
    have hc := H.nil rfl
    subst hc
    obtain rfl : len = 0 := by omega
    obtain rfl : l = [] := List.eq_nil_of_length_eq_zero hll
    refine wpList_append_own_none hgd s x 23 ho base 24 i0 1 Try.underlying23 hi _ 0 _ hs hown hx ?_
    obtain ⟨a', cap', e, hh⟩ := hasU_of_owns hown (fun x hx => by simp at hx)
    cases e
    exact h _ _ _ hh (Below.refl _ _) hown
  | some ad =>
    refine wpList_append_own _ hgd s x 23 ho base 24 i0 (.int .u64 0) 1 8 Try.underlying23 hi hz0 hz1 hz2 rfl (by decide) _ 0 _ hs hown ad len cap (l.map (Value.int .u64)) hx (by simp [hll]) (hasU_cells H) (nums_oneCell _) (by unfold maxLen; omega) (by omega) hbase ?_
    intro v' w' h1 h2 h3
    have h1' : w'.ownsRow base 24 1 v' len (l.map (Value.int .u64)) := by simpa using h1
    obtain ⟨a', cap', e, hh⟩ := hasU_of_owns h1' H.range
    subst e
    exact h _ _ _ hh ((Below.refl _ _).grown h2 hbase (fun k hk => (hown.lt k hk).1)) h1'
theorem owns_empty (w : World) : (w.alloc (.cells #[] 24)).ownsRow w.heap.size 24 1 (.slice (some ⟨w.heap.size, 0, none⟩) 0 0) 0 (([] : List Int).map (Value.int .u64)) := by
  simpa using World.ownsRow_made (e := 24) (size := 1) w #[] 0 (Nat.le_refl _) (Nat.zero_le _) (by simp)
/-- A literal row. -/
theorem hasU_lit (w : World) (xs : List Int) (hb : ∀ x ∈ xs, 0 ≤ x ∧ x < 18446744073709551616) (hm : xs.length ≤ maxLen) : HasU (w.alloc (.cells (xs.map (Value.int .u64)).toArray 24)) (some ⟨w.heap.size, 0, none⟩) xs.length xs.length xs := by
  refine ⟨rfl, Nat.le_refl _, hm, (fun h => by cases h), fun _ => ⟨w.heap.size, 0, rfl, by simp, fun i hi => ?_⟩, hb⟩
  simp [List.getElem?_eq_getElem hi]

set_option maxHeartbeats 1000000 in
theorem same_any (w : World) (a a' : Option Addr) (n n' c c' : Nat) (l l' : List Int) (h : HasU w a n c l) (h' : HasU w a' n' c' l') (hs : n ≤ 1000000000) :
    Calls Try.prog 14 #[.slice a n c, .slice a' n' c'] w fun e w' => e = .returned (.bool (decide (l = l'))) ∧ Below w.heap.size w w' := by
  have hc := hide h
  have hc' := hide h'
  have hl := hide h.hlen
  have hl' := hide h'.hlen
  have i1 : (n : Int) ≤ 1000000000 := by omega
  clear h h'
  by_cases hn : n = n'
  · subst hn
    go_enter Try.func14, Try.ntmps14
    go_wp2_with fail
    go_loopw [5] (fun iv wr => ∃ i : Nat, i ≤ n ∧ iv = .int .i64 (i : Int) ∧ Hid (∀ j, j < i → l.getD j 0 = l'.getD j 0) ∧ Hid (Below w.heap.size w wr)) (fun iv _ => n - (intOf iv).toNat)
    case atStart => exact ⟨0, Nat.zero_le _, rfl, (fun j hj => by omega : ∀ j, j < 0 → l.getD j 0 = l'.getD j 0), Below.refl _ _⟩
    case round =>
      obtain ⟨i, hi, rfl, hsm, B⟩ := hrel
      by_cases hlt : i < n
      · have j1 : (i : Int) < (n : Int) := by omega
        have j2 : (0 : Int) ≤ (i : Int) := by omega
        obtain ⟨b, off, rfl, hb, c1, _⟩ := hc.out.at i hlt
        obtain ⟨b', off', rfl, hb', c2, _⟩ := hc'.out.at i hlt
        have c1i : wr.cell? ⟨b, off + i, none⟩ = some (.int .u64 (l.getD i 0)) := (B.out.cell (p := ⟨b, off + i, none⟩) hb).trans c1
        have c2i : wr.cell? ⟨b', off' + i, none⟩ = some (.int .u64 (l'.getD i 0)) := (B.out.cell (p := ⟨b', off' + i, none⟩) hb').trans c2
        clear c1 c2
        have hgo : Hid (l.getD i 0 = l'.getD i 0 → ∀ j, j < i + 1 → l.getD j 0 = l'.getD j 0) := fun e j hj => by
          rcases Nat.lt_or_ge j i with h | h
          · exact hsm.out j h
          · obtain rfl : j = i := by omega
            exact e
        have hno : Hid (l.getD i 0 ≠ l'.getD i 0 → decide (l = l') = false) := fun e => by
          simp only [decide_eq_false_iff_not]
          rintro rfl
          exact e rfl
        generalize l.getD i 0 = t at *
        generalize l'.getD i 0 = t' at *
        have j4 : i + 1 ≤ n := by omega
        by_cases he : t = t'
        · subst he
          replace hgo := hide (hgo.out rfl)
          go_wp2_with fail
          go_quiet (fail)
          go_wp2_with fail
          go_roundw
          case rel => exact ⟨i + 1, j4, by go_num, hgo, below_drewN B.out nq⟩
          case measure => simp [intOf]; omega
        · have hd := hno.out he
          have k1 : (t != t') = true := by simpa using he
          replace he := hide he
          replace hd := hide hd
          go_wp2_with fail
          go_quiet (fail)
          go_wp2_with fail
          go_ret
          exact ⟨ret_bool hd.out.symm, below_drewN B.out nq⟩
      · obtain rfl : i = n := by omega
        have j1 : ¬ (i : Int) < (i : Int) := by omega
        go_wp2_with fail
        go_ret
        refine ⟨ret_bool (Eq.symm ?_), B.out⟩
        rw [decide_eq_true_iff]
        exact list_ext (by rw [hl.out, hl'.out]) (fun j hj => hsm.out j (by rw [← hl.out]; exact hj))
  · have k1 : ((n : Int) != (n' : Int)) = true := by simp; omega
    go_enter Try.func14, Try.ntmps14
    go_wp2_with fail
    go_ret
    refine ⟨ret_bool (Eq.symm ?_), Below.refl _ _⟩
    rw [decide_eq_false_iff_not]
    rintro rfl
    exact hn (by rw [← hl.out, ← hl'.out])
/-- What Check says of a list. -/
def upE (l : List Int) : Int := if upB l = true then 0 else 2
theorem upE_ok {l : List Int} (h : Up l) : upE l = 0 := by unfold upE; rw [if_pos (up_iff.2 h)]
theorem upE_no {l : List Int} (h : ¬ Up l) : upE l = 2 := by unfold upE; rw [if_neg (fun e => h (up_iff.1 e))]
theorem ret_int {k : IntKind} {a b : Int} (h : a = b) : Ending.returned (.int k a) = .returned (.int k b) := by rw [h]
set_option maxHeartbeats 1000000 in
theorem check_any (w : World) (a : Option Addr) (n c : Nat) (l : List Int) (h : HasU w a n c l) (hs : n ≤ 1000000000) :
    Calls Try.prog 15 #[.slice a n c] w fun e w' => e = .returned (.int .i64 (upE l)) ∧ Below w.heap.size w w' := by
  have hc := hide h
  have hl := hide h.hlen
  have i1 : (n : Int) ≤ 1000000000 := by omega
  clear h
  go_enter Try.func15, Try.ntmps15
  go_wp2_with fail
  go_loopw [3] (fun iv wr => ∃ i : Nat, (i = 0 ∨ i + 1 ≤ n) ∧ iv = .int .i64 ((i : Int) + 1) ∧ Hid (∀ j, j + 1 < i + 1 → l.getD j 0 < l.getD (j + 1) 0) ∧ Hid (Below w.heap.size w wr)) (fun iv _ => n + 1 - (intOf iv).toNat)
  case atStart => exact ⟨0, .inl rfl, rfl, (fun j hj => by omega : ∀ j, j + 1 < 0 + 1 → l.getD j 0 < l.getD (j + 1) 0), Below.refl _ _⟩
  case round =>
    obtain ⟨i, hi, rfl, hsm, B⟩ := hrel
    by_cases hlt : i + 1 < n
    · have j1 : (i : Int) + 1 < (n : Int) := by omega
      have j2 : (0 : Int) ≤ (i : Int) := by omega
      have j3 : (i : Int) < (n : Int) := by omega
      have j5 : (0 : Int) ≤ (i : Int) + 1 := by omega
      obtain ⟨b, off, rfl, hb, c1, _⟩ := hc.out.at i (by omega)
      obtain ⟨b', off', e', hb', c2, _⟩ := hc.out.at (i + 1) hlt
      cases e'
      have c1i : wr.cell? ⟨b, off + i, none⟩ = some (.int .u64 (l.getD i 0)) := (B.out.cell (p := ⟨b, off + i, none⟩) hb).trans c1
      have c2i : wr.cell? ⟨b, off + (i + 1), none⟩ = some (.int .u64 (l.getD (i + 1) 0)) := (B.out.cell (p := ⟨b, off + (i + 1), none⟩) hb').trans c2
      have tn : ((i : Int) + 1).toNat = i + 1 := by omega
      clear c1 c2
      have hgo : Hid (l.getD i 0 < l.getD (i + 1) 0 → ∀ j, j + 1 < i + 1 + 1 → l.getD j 0 < l.getD (j + 1) 0) := fun e j hj => by
        rcases Nat.lt_or_ge j i with h | h
        · exact hsm.out j (by omega)
        · obtain rfl : j = i := by omega
          exact e
      have hno : Hid (l.getD (i + 1) 0 ≤ l.getD i 0 → upE l = 2) := fun e => by
        unfold upE
        rw [upB_false (i := i) (by rw [hl.out]; exact hlt) e]
        rfl
      generalize l.getD i 0 = t at *
      generalize l.getD (i + 1) 0 = t' at *
      have j4 : i + 1 + 1 ≤ n := by omega
      by_cases he : t' ≤ t
      · have hd := hide (hno.out he)
        go_wp2_with fail
        go_quiet (fail)
        go_wp2_with fail
        go_ret
        exact ⟨ret_int hd.out.symm, below_drewN B.out nq⟩
      · have he2 : t < t' := by omega
        replace hgo := hide (hgo.out he2)
        go_wp2_with fail
        go_quiet (fail)
        go_wp2_with fail
        go_roundw
        case rel => exact ⟨i + 1, .inr j4, by go_num, hgo, below_drewN B.out nq⟩
        case measure => simp [intOf]; omega
    · have j1 : ¬ (i : Int) + 1 < (n : Int) := by omega
      go_wp2_with fail
      go_ret
      refine ⟨ret_int (Eq.symm ?_), B.out⟩
      unfold upE
      rw [if_pos]
      rw [upB_iff]
      intro j hj
      exact hsm.out j (by rw [hl.out] at hj; omega)
end Go.Proofs.Ythkfbdcocnhebaa
