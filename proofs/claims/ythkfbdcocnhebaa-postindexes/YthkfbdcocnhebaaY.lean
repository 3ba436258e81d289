/-
  Rows of texts in memory; SameTexts.
-/
import Derived.Test.YthkfbdcocnhebaaX
namespace Go.Proofs.Ythkfbdcocnhebaa
open Go.RowKit
set_option linter.unusedVariables false
set_option linter.unusedSimpArgs false

/-- In the world w the slice has the texts l. -/
structure HasT (w : World) (a : Option Addr) (len cap : Nat) (l : List Str) : Prop where
  hlen : l.length = len
  le : len ≤ cap
  capb : cap ≤ maxLen
  cells : ∀ i, i < len → ∃ b off, a = some ⟨b, off, none⟩ ∧ b < w.heap.size ∧ w.cell? ⟨b, off + i, none⟩ = some (.string (l.getD i ByteArray.empty))
theorem HasT.at {w : World} {a : Option Addr} {n c : Nat} {l : List Str} (h : HasT w a n c l) (i : Nat) (hi : i < n) : ∃ b off, a = some ⟨b, off, none⟩ ∧ b < w.heap.size ∧ w.cell? ⟨b, off + i, none⟩ = some (.string (l.getD i ByteArray.empty)) := h.cells i hi
theorem HasT.kept {w w' : World} {a : Option Addr} {n c B : Nat} {l : List Str} (h : HasT w a n c l) (hb : Below B w w') (hB : w.heap.size ≤ B) : HasT w' a n c l :=
  ⟨h.hlen, h.le, h.capb, fun i hi => by
    obtain ⟨b, off, e1, e2, e3⟩ := h.cells i hi
    exact ⟨b, off, e1, Nat.lt_of_lt_of_le e2 hb.size, (World.cell?_of_block (hb.block b (by omega))).trans e3⟩⟩
theorem list_extS {l m : List Str} (h : l.length = m.length) (k : ∀ i, i < l.length → l.getD i ByteArray.empty = m.getD i ByteArray.empty) : l = m := by
  apply List.ext_getElem h
  intro i h1 h2
  have := k i h1
  simpa [List.getD, List.getElem?_eq_getElem h1, List.getElem?_eq_getElem h2] using this
theorem info9 : (Try.prog.info? 9).map (fun i => (i.zero, i.size, i.bytes)) = some (some (.string ByteArray.empty), 1, 16) := by kernel_rfl
theorem texts_oneCell (l : List Str) : ∀ u ∈ l.map Value.string, u.oneCell' = true := by
  intro u hu; obtain ⟨x, _, rfl⟩ := List.mem_map.1 hu; rfl
theorem hasT_of_owns {w : World} {base : Nat} {a : Option Addr} {n c : Nat} {l : List Str} (h : w.ownsRow base 9 1 (.slice a n c) n (l.map Value.string)) : HasT w a n c l := by
  have hlen : l.length = n := by simpa using h.1
  rcases h.2 with ⟨e, rfl⟩ | ⟨g, cap, cur, e, hbg, hg, hnc, hcm, hcs, htake⟩
  · cases e
    exact ⟨hlen, Nat.le_refl _, Nat.zero_le _, fun i hi => by omega⟩
  · cases e
    refine ⟨hlen, hnc, hcm, fun i hi => ?_⟩
    have := h.cells (g := g) rfl i (.string (l.getD i ByteArray.empty)) (by
      have hi' : i < l.length := by omega
      simp [List.getD, List.getElem?_eq_getElem hi'])
    rw [add_plain] at this
    exact ⟨g, 0, rfl, (Array.getElem?_eq_some_iff.1 hg).1, this⟩
theorem ownsT_empty (w : World) : (w.alloc (.cells #[] 9)).ownsRow w.heap.size 9 1 (.slice (some ⟨w.heap.size, 0, none⟩) 0 0) 0 (([] : List Str).map Value.string) := by
  simpa using World.ownsRow_made (e := 9) (size := 1) w #[] 0 (Nat.le_refl _) (Nat.zero_le _) (by simp)
/-- append of one text to a row of one's own. -/
theorem wpList_pushT {w : World} {ops : Array Oper} {rest : List Oper} {o : Oper} {a : Act} {Q : Exit → Act → World → Prop} (hgd : o.guard = none) (s x : Operand)
    (ho : o.op = .call { callee := .builtin .append, args := #[s, x], argTypes := #[55, 55] }) (base : Nat) (v : Value) (k : Nat) (l : List Str) (hs : a.eval s = v) (hown : w.ownsRow base 9 1 v k (l.map Value.string))
    (ax : Nat) (b : Str) (hx : a.eval x = .slice (some ⟨ax, 0, none⟩) 1 1) (hc : w.cell? ⟨ax, 0, none⟩ = some (.string b)) (hb : k + 1 ≤ 1000000) (hbase : base ≤ w.heap.size)
    (h : ∀ g cap w', w'.ownsRow base 9 1 (.slice (some ⟨g, 0, none⟩) (k + 1) cap) (k + 1) ((l ++ [b]).map Value.string) → w.grownBy w' v.ownBlock → wpList Try.prog ops Q rest (a.put o.dst (.slice (some ⟨g, 0, none⟩) (k + 1) cap)) w') :
    wpList Try.prog ops Q (o :: rest) a w := by
  obtain ⟨i0, hi, hz0, hz1, hz2⟩ := info_parts info9
  refine wpList_append_lies w hgd s x 55 ho base 9 i0 (.string ByteArray.empty) 1 16 Try.underlying55 hi hz0 hz1 hz2 rfl (by decide) v k (l.map Value.string) hs hown ⟨ax, 0, none⟩ 1 1 ([b].map Value.string) hx
    (by simp) ?_ (texts_oneCell _) (by omega) (by unfold maxLen; omega) (by omega) hbase _ rfl ?_
  · intro j u hj
    have hj0 : j = 0 := by
      rcases Nat.lt_or_ge j 1 with h | h
      · omega
      · rw [List.getElem?_eq_none (by simpa using h)] at hj; cases hj
    subst hj0
    simp at hj
    subst hj
    rw [add_plain]; exact hc
  · intro g cap w' h1 h2 h3 _
    exact h g cap w' (by simpa using h1) h2
set_option maxHeartbeats 1000000 in
theorem texts_any (w : World) (a a' : Option Addr) (n n' c c' : Nat) (l l' : List Str) (h : HasT w a n c l) (h' : HasT w a' n' c' l') (hs : n ≤ 1000000000) :
    Calls Try.prog 35 #[.slice a n c, .slice a' n' c'] w fun e w' => e = .returned (.bool (decide (l = l'))) ∧ Below w.heap.size w w' := by
  have hc := hide h
  have hc' := hide h'
  have hl := hide h.hlen
  have hl' := hide h'.hlen
  have i1 : (n : Int) ≤ 1000000000 := by omega
  clear h h'
  by_cases hn : n = n'
  · subst hn
    go_enter Try.func35, Try.ntmps35
    go_wp2_with fail
    go_loopw [5] (fun iv wr => ∃ i : Nat, i ≤ n ∧ iv = .int .i64 (i : Int) ∧ Hid (∀ j, j < i → l.getD j ByteArray.empty = l'.getD j ByteArray.empty) ∧ Hid (Below w.heap.size w wr)) (fun iv _ => n - (intOf iv).toNat)
    case atStart => exact ⟨0, Nat.zero_le _, rfl, (fun j hj => by omega : ∀ j, j < 0 → l.getD j ByteArray.empty = l'.getD j ByteArray.empty), Below.refl _ _⟩
    case round =>
      obtain ⟨i, hi, rfl, hsm, B⟩ := hrel
      by_cases hlt : i < n
      · have j1 : (i : Int) < (n : Int) := by omega
        have j2 : (0 : Int) ≤ (i : Int) := by omega
        obtain ⟨b, off, rfl, hb, c1⟩ := hc.out.at i hlt
        obtain ⟨b', off', rfl, hb', c2⟩ := hc'.out.at i hlt
        have c1i : wr.cell? ⟨b, off + i, none⟩ = some (.string (l.getD i ByteArray.empty)) := (B.out.cell (p := ⟨b, off + i, none⟩) hb).trans c1
        have c2i : wr.cell? ⟨b', off' + i, none⟩ = some (.string (l'.getD i ByteArray.empty)) := (B.out.cell (p := ⟨b', off' + i, none⟩) hb').trans c2
        clear c1 c2
        have hgo : Hid (l.getD i ByteArray.empty = l'.getD i ByteArray.empty → ∀ j, j < i + 1 → l.getD j ByteArray.empty = l'.getD j ByteArray.empty) := fun e j hj => by
          rcases Nat.lt_or_ge j i with h | h
          · exact hsm.out j h
          · obtain rfl : j = i := by omega
            exact e
        have hno : Hid (l.getD i ByteArray.empty ≠ l'.getD i ByteArray.empty → decide (l = l') = false) := fun e => by
          simp only [decide_eq_false_iff_not]
          rintro rfl
          exact e rfl
        generalize l.getD i ByteArray.empty = t at *
        generalize l'.getD i ByteArray.empty = t' at *
        have j4 : i + 1 ≤ n := by omega
        by_cases he : t = t'
        · subst he
          have k1 : (t.toList == t.toList) = true := keys_eq rfl
          replace hgo := hide (hgo.out rfl)
          go_wp2_with fail
          go_quiet (fail)
          go_wp2_with fail
          go_roundw
          case rel => exact ⟨i + 1, j4, by go_num, hgo, below_drewN B.out nq⟩
          case measure => simp [intOf]; omega
        · have hd := hno.out he
          have k1 := keys_ne he
          replace he := hide he
          replace hd := hide hd
          go_wp2_with fail
          go_quiet (fail)
          go_wp2_with fail
          go_ret
          exact ⟨ret_bool hd.out.symm, below_drewN B.out nq⟩
      · obtain rfl : i = n := by omega
        have j1 : ¬ (i : Int) < (i : Int) := by omega
        go_wp2_with fail
        go_ret
        refine ⟨ret_bool (Eq.symm ?_), B.out⟩
        rw [decide_eq_true_iff]
        exact list_extS (by rw [hl.out, hl'.out]) (fun j hj => hsm.out j (by rw [← hl.out]; exact hj))
  · have k1 : ((n : Int) != (n' : Int)) = true := by simp; omega
    go_enter Try.func35, Try.ntmps35
    go_wp2_with fail
    go_ret
    refine ⟨ret_bool (Eq.symm ?_), Below.refl _ _⟩
    rw [decide_eq_false_iff_not]
    rintro rfl
    exact hn (by rw [← hl.out, ← hl'.out])
end Go.Proofs.Ythkfbdcocnhebaa
