/-
  works: the chapter's examples.
-/
import Derived.Test.YtkfdikpnnkbgaaaGreatDoorSS
namespace Go.Proofs.YtkfdikpnnkbgaaaGreatDoor
open Go.RowKit Go.Shelf
set_option linter.unusedVariables false
set_option linter.unusedSimpArgs false

def sA : S4 := ⟨0, 8589934592, 0, 0⟩
def sB : S4 := ⟨0, 17179869184, 0, 0⟩
def sC : S4 := ⟨0, 34359738368, 0, 0⟩
def tr1 : Tr := (⟨2, noSet, 0, 0⟩, .cons ⟨4, noSet, 0, -1⟩ (.cons ⟨3, noSet, 0, 0⟩ (.cons ⟨1, sA, 0, 0⟩ .nil (.cons ⟨1, sB, 0, 0⟩ .nil .nil)) .nil) (.cons ⟨1, sC, 0, 0⟩ .nil .nil))
def tr2 : Tr := (⟨4, noSet, 0, -1⟩, .cons ⟨1, sA, 0, 0⟩ .nil .nil)
def px1 : ByteArray := ⟨#[40, 97, 124, 98, 41, 42, 99]⟩
def px2 : ByteArray := ⟨#[97, 42]⟩
def sx1 : ByteArray := ⟨#[97, 98, 97, 99]⟩
def sx2 : ByteArray := ⟨#[97, 98]⟩
def sx3 : ByteArray := ⟨#[98, 97, 97, 98]⟩
theorem parse1 : parseM px1 = .ok tr1 := by kernel_rfl
theorem parse2 : parseM px2 = .ok tr2 := by kernel_rfl
theorem ok1 {s : S4} (h : s = sA ∨ s = sB ∨ s = sC) : OkS s := fun k hk => by
  rcases h with rfl | rfl | rfl <;> rcases (show k = 0 ∨ k = 1 ∨ k = 2 ∨ k = 3 by omega) with rfl | rfl | rfl | rfl <;> decide
theorem okT1 : okT tr1 := ⟨noSet_ok, noSet_ok, ⟨noSet_ok, ⟨ok1 (.inl rfl), trivial, ok1 (.inr (.inl rfl)), trivial, trivial⟩, trivial⟩, ok1 (.inr (.inr rfl)), trivial, trivial⟩
theorem okT2 : okT tr2 := ⟨noSet_ok, ok1 (.inl rfl), trivial, trivial⟩
theorem n1 : (prg tr1).n ≤ 2048 := by decide +kernel
theorem n2 : (prg tr2).n ≤ 2048 := by decide +kernel
theorem b1 : bys sx1 = [97, 98, 97, 99] := by decide +kernel
theorem b2 : bys sx2 = [97, 98] := by decide +kernel
theorem b3 : bys sx3 = [98, 97, 97, 98] := by decide +kernel
theorem inA : inS sA 97 = true := by decide +kernel
theorem inB2 : inS sB 98 = true := by decide +kernel
theorem inC : inS sC 99 = true := by decide +kernel
theorem noC : inS sC 98 = false := by decide +kernel
theorem noA : inS sA 98 = false := by decide +kernel
theorem me1 (s : List Nat) : meT tr1 s ↔ cat (repM (orM [byM sA, byM sB]) 0 (-1)) (cat (byM sC) eps) s := Iff.rfl
theorem me2 (s : List Nat) : meT tr2 s ↔ repM (byM sA) 0 (-1) s := Iff.rfl
theorem yes1 : meT tr1 (bys sx1) := by
  rw [b1, me1]
  refine ⟨[97, 98, 97], [99], rfl, ⟨3, by omega, .inl rfl, [97], [98, 97], rfl, ⟨byM sA, by simp, 97, rfl, inA⟩, [98], [97], rfl, ⟨byM sB, by simp, 98, rfl, inB2⟩, [97], [], rfl, ⟨byM sA, by simp, 97, rfl, inA⟩, rfl⟩, [99], [], rfl, ⟨99, rfl, inC⟩, rfl⟩
theorem no1 : ¬ meT tr1 (bys sx2) := by
  rw [b2, me1]
  rintro ⟨u, v, e, _, x, y, rfl, ⟨b, rfl, hb⟩, hy⟩
  have hy2 : y = [] := hy
  subst hy2
  have := congrArg List.getLast? e
  simp at this
  rw [← this, noC] at hb
  cases hb
theorem pow_all {x : S4} : ∀ (r : Nat) (s : List Nat), powM (byM x) r s → ∀ b ∈ s, inS x b = true
  | 0, s, h, b, hb => by have h2 : s = [] := h; rw [h2] at hb; cases hb
  | r + 1, s, ⟨u, v, e, ⟨c, hc, hi⟩, hv⟩, b, hb => by
    rw [e, hc] at hb
    rcases List.mem_append.1 hb with hb | hb
    · rw [List.mem_singleton.1 hb]; exact hi
    · exact pow_all r v hv b hb
theorem plc2 (k : Nat) : plc ((prg tr2).put 0 0) sx3 1 k ↔ 1 ≤ k ∧ meT tr2 (([97, 97, 98] : List Nat).take (k - 1)) := by
  have hf : fitT tr2 := by have := parse_good px2; rw [parse2] at this; exact this.1
  unfold plc
  rw [prg_stn tr2 hf, b3]
  rfl
theorem ends2 : eL ((prg tr2).put 0 0) sx3 1 (sx3.size + 1) = [1, 2, 3] := by
  have h0 : ¬ plc ((prg tr2).put 0 0) sx3 1 0 := fun h => by have := h.1; omega
  have h1 : plc ((prg tr2).put 0 0) sx3 1 1 := (plc2 1).2 ⟨by omega, (me2 _).2 ⟨0, by omega, .inl rfl, rfl⟩⟩
  have h2 : plc ((prg tr2).put 0 0) sx3 1 2 := (plc2 2).2 ⟨by omega, (me2 _).2 ⟨1, by omega, .inl rfl, [97], [], rfl, ⟨97, rfl, inA⟩, rfl⟩⟩
  have h3 : plc ((prg tr2).put 0 0) sx3 1 3 := (plc2 3).2 ⟨by omega, (me2 _).2 ⟨2, by omega, .inl rfl, [97], [97], rfl, ⟨97, rfl, inA⟩, [97], [], rfl, ⟨97, rfl, inA⟩, rfl⟩⟩
  have h4 : ¬ plc ((prg tr2).put 0 0) sx3 1 4 := fun h => by
    obtain ⟨_, r, _, _, hr⟩ := (plc2 4).1 h
    have := pow_all r _ hr 98 (by simp)
    rw [noA] at this
    cases this
  have e : sx3.size + 1 = 5 := rfl
  rw [e, eL_succ_no h4, eL_succ_yes h3, eL_succ_yes h2, eL_succ_yes h1, eL_succ_no h0]
  rfl
set_option maxHeartbeats 2000000 in
set_option maxRecDepth 100000 in
/-- Two lists with the same numbers are the same. -/
theorem same_ints (xs : List Nat) (b1 o1 c1 b2 o2 c2 : Nat) (w : World) (h1 : ∀ (i z : Nat), xs[i]? = some z → w.cell? ⟨b1, o1 + i, none⟩ = some (.int .i64 (z : Int))) (h2 : ∀ (i z : Nat), xs[i]? = some z → w.cell? ⟨b2, o2 + i, none⟩ = some (.int .i64 (z : Int))) (hl : xs.length ≤ 100000) :
    Calls Tryz.prog 19 #[.slice (some ⟨b1, o1, none⟩) xs.length c1, .slice (some ⟨b2, o2, none⟩) xs.length c2] w fun e w' => e = .returned (.bool true) ∧ Below w.heap.size w w' := by
  replace h1 := hide h1
  replace h2 := hide h2
  obtain ⟨n, hn⟩ : ∃ n, n = xs.length := ⟨_, rfl⟩
  rw [← hn] at hl ⊢
  replace hn := hide hn
  go_enter Tryz.func19, Tryz.ntmps19
  go_wp2_with fail
  go_loopw [5] (fun v wr => ∃ k : Nat, v = .int .i64 ((k : Nat) : Int) ∧ k ≤ n ∧ Hid (Below w.heap.size w wr ∧ wr.heap = w.heap)) (fun v _ => n - (RowKit.intOf v).toNat)
  case atStart => exact ⟨0, rfl, Nat.zero_le _, ⟨Below.refl _ _, rfl⟩⟩
  case round =>
    obtain ⟨k, rfl, hk, hB⟩ := hrel
    by_cases hlt : k < n
    · have i1 : (k : Int) < (n : Int) := by omega
      obtain ⟨z, hz⟩ : ∃ z, xs[k]? = some z := ⟨_, List.getElem?_eq_getElem (by rw [← hn.out]; exact hlt)⟩
      have d1 : wr.cell? ⟨b1, o1 + k, none⟩ = some (.int .i64 (z : Int)) := (World.cell?_of_block (by rw [hB.out.2])).trans (h1.out k z hz)
      have d2 : wr.cell? ⟨b2, o2 + k, none⟩ = some (.int .i64 (z : Int)) := (World.cell?_of_block (by rw [hB.out.2])).trans (h2.out k z hz)
      replace hz := hide hz
      have hltH := hide hlt
      go_wp2_with fail
      go_quiet (fail)
      have hB2 : Hid (Below w.heap.size w (wr.drewN nq) ∧ (wr.drewN nq).heap = w.heap) := ⟨⟨hB.out.1.os, hB.out.1.tape, hB.out.1.output, hB.out.1.size, hB.out.1.block⟩, hB.out.2⟩
      go_wp2_with fail
      go_roundw
      case rel => exact ⟨k + 1, by go_num, hltH.out, hB2⟩
      case measure => have := hltH.out; simp [RowKit.intOf]; omega
    · obtain rfl : k = n := by omega
      go_wp2_with fail
      go_ret
      exact ⟨rfl, hB.out.1⟩
set_option maxHeartbeats 4000000 in
set_option maxRecDepth 100000 in
theorem works_any (w : World) (hT : Tab w) : Calls Tryz.prog 13 #[] w fun e w' => e = .returned (.bool true) ∧ Below w.heap.size w w' := by
  have F1 := hide (full_ok px1 sx1 tr1 parse1 (by decide) okT1 n1 (by decide) w hT)
  have hTh := hide hT
  clear hT
  go_enter Tryz.func13, Tryz.ntmps13
  go_wp2_with fail
  refine F1.out.mono ?_
  rintro e w1 ⟨B1, x1, rfl, hx1⟩
  obtain rfl : x1 = true := hx1.2 yes1
  clear hx1
  have F2 := hide (full_ok px1 sx2 tr1 parse1 (by decide) okT1 n1 (by decide) w1 (hTh.out.below B1))
  replace B1 := hide B1
  go_wp2_with fail
  refine F2.out.mono ?_
  rintro e w2 ⟨B2, x2, rfl, hx2⟩
  obtain rfl : x2 = false := by
    cases x2 with
    | false => rfl
    | true => exact (no1 (hx2.1 rfl)).elim
  clear hx2
  have B12 : Hid (Below w.heap.size w w2) := B1.out.trans (B2.mono B1.out.size)
  clear B2
  go_wp2_with fail
  refine (parse_any px2 w2 (hTh.out.below B12.out)).mono ?_
  rintro e w3 ⟨B3, ⟨h1, _⟩ | ⟨_, ⟨q, h2, _⟩ | ⟨x, t', h2, rfl, T⟩⟩⟩
  · exact absurd h1 (by decide)
  · rw [parse2] at h2; cases h2
  · rw [parse2] at h2
    cases h2
    have hg := parse_good px2
    rw [parse2] at hg
    obtain ⟨hf, hz, hd⟩ := hg
    obtain ⟨va, vn, vc, hxv⟩ := T.val
    subst hxv
    replace hf := hide hf
    replace T := hide T
    have H := St.start Nope w3
    have B13 : Hid (Below w.heap.size w w3) := B12.out.trans (B3.mono B12.out.size)
    clear B3
    have hz2 : szT tr2 ≤ 4096 := by decide +kernel
    have hd2 : dpT tr2 ≤ 128 := by decide +kernel
    clear hz hd
    simp only [tr2]
    go_wp2_with (first | (with_reducible refine at_alloc 27 ?_; refine wl_alloc28 H ?_; clear H; intro g1 w' H q1 q2) | (with_reducible refine at_store 27 ?_; refine wl_store28 0 H rfl rfl rfl rfl ?_; clear H; intro w' H) | ((with_reducible refine at_load 27 ?_); refine wl_load28 0 H rfl rfl ?_))
    have G1 := H.below
    refine (make_ok tr2 _ _ _ (T.out.kept (fun k _ hk => G1.block k hk)) hf.out hz2 hd2).mono ?_
    rintro e w5 ⟨B5, ⟨h3, _⟩ | ⟨_, v, rfl, R5, _⟩⟩
    · exact absurd n2 (by omega)
    · replace H := H.call B5 (Nat.le_refl _)
      have B15 : Hid (Below w.heap.size w w5) := B13.out.trans (H.below.mono B13.out.size)
      obtain ⟨a, c, rfl, HI⟩ := R5.hs2 (w' := w5) (fun _ _ => rfl) (Nat.le_refl _)
      have hp := (prg tr2).pos
      have hE := hide (ends_any a c _ sx3 1 w5 HI (hTh.out.below B15.out) (prg_go tr2 hf.out) (prg_oks tr2 okT2) (chkS_0 tr2 hf.out n2 sx3 (by decide)) (by rw [prg_len]; omega) (by rw [prg_len]; exact n2) (by decide) (by decide))
      rw [ends2] at hE
      generalize ((prg tr2).put 0 0).length = n at *
      clear H R5 HI G1
      go_wp2_with fail
      refine hE.out.mono ?_
      rintro e w6 ⟨B6, v, rfl, ho⟩
      obtain ⟨g, cap, cur, rfl, q1, q2, q3, q4, q5, q6⟩ : ∃ g cap cur, v = .slice (some ⟨g, 0, none⟩) 3 cap ∧ w5.heap.size ≤ g ∧ w6.heap[g]? = some (.cells cur 3 (0, 0)) ∧ 3 ≤ cap ∧ cap ≤ maxLen ∧ cur.size = cap * 1 ∧ cur.toList.take (3 * 1) = cellsI [1, 2, 3] := by
        rcases ho.2 with ⟨_, h⟩ | h
        · cases h
        · exact h
      have B16 : Hid (Below w.heap.size w w6) := B15.out.trans (B6.mono B15.out.size)
      have hb7 : Below w6.heap.size w6 (w6.alloc (.cells #[.int .i64 1, .int .i64 2, .int .i64 3] 3)) := (Below.refl _ _).alloc (Nat.le_refl _) _
      have hcell : ∀ (i z : Nat), ([1, 2, 3] : List Nat)[i]? = some z → cur[i]? = some (Value.int .i64 (z : Int)) := fun i z hi => by
        have hi3 : i < 3 := (List.getElem?_eq_some_iff.1 hi).1
        have h1 : (cur.toList.take (3 * 1))[i]? = some (Value.int .i64 (z : Int)) := by
          rw [q6]
          unfold cellsI
          rw [List.getElem?_map, hi]
          rfl
        rw [List.getElem?_take_of_lt (by omega)] at h1
        simpa using h1
      have hS := hide (same_ints [1, 2, 3] g 0 cap w6.heap.size 0 3 (w6.alloc (.cells #[.int .i64 1, .int .i64 2, .int .i64 3] 3)) (fun i z hi => by
        rw [cell_of_row _ g _ _ 3 (0, 0) ((hb7.block g (Array.getElem?_eq_some_iff.1 q2).1).trans q2), Nat.zero_add]
        exact hcell i z hi) (fun i z hi => by
        rw [cell_of_row _ _ _ _ 3 (0, 0) (heap_alloc_new w6 _), Nat.zero_add]
        have hi3 : i < 3 := (List.getElem?_eq_some_iff.1 hi).1
        rcases (show i = 0 ∨ i = 1 ∨ i = 2 by omega) with rfl | rfl | rfl <;> (cases hi; rfl)) (by decide))
      replace hb7 := hide hb7
      replace hcell := hide hcell
      replace q2 := hide q2
      replace q6 := hide q6
      clear ho B6
      go_wp2_with fail
      refine hS.out.mono ?_
      rintro e w8 ⟨rfl, B8⟩
      have B18 : Hid (Below w.heap.size w w8) := (B16.out.trans (hb7.out.mono B16.out.size)).trans (B8.mono (by have := B16.out.size; have := hb7.out.size; omega))
      clear B8
      go_wp2_with fail
      go_ret
      exact ⟨rfl, B18.out⟩
end Go.Proofs.YtkfdikpnnkbgaaaGreatDoor
