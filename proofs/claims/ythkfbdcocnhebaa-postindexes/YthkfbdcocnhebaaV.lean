/-
  The reference's set.
-/
import Derived.Test.YthkfbdcocnhebaaU
namespace Go.Proofs.Ythkfbdcocnhebaa
open Go.RowKit
set_option linter.unusedVariables false
set_option linter.unusedSimpArgs false

theorem setI_done {E : List Ent} {X : List EV} {key : Str} {l : List Int} (h : SetI E key l true (X.map Prod.fst)) : X.map Prod.fst = st E key l := by simpa using h.done
theorem setI_push {E : List Ent} {X : List EV} {key : Str} {l : List Int} {z : Value} (h : SetI E key l false (X.map Prod.fst)) : (X ++ [((key, l), z)]).map Prod.fst = st E key l := by simpa using h.done
/-- How set ends. -/
theorem set_end {No : Nat → Prop} {w wr : World} {g co n c : Nat} {ao a : Option Addr} {X : List EV} {E' : List Ent} (hg : w.heap[g]? = some (.cells #[.slice a n c] 50 (0, 0))) (hX : Xs No w X) (hng : ¬ No g) (hNo : ∀ x, No x → x < w.heap.size) (hO : wr.ownsRow w.heap.size 57 2 (.slice ao X.length co) X.length (flE X)) (hB : Below w.heap.size w wr) (hE : X.map Prod.fst = E') :
    Rx No (wr.setCell ⟨g, 0, none⟩ (.slice ao X.length co)) g E' ∧ But (fun b => b = g) w (wr.setCell ⟨g, 0, none⟩ (.slice ao X.length co)) := by
  have hgl : g < w.heap.size := (Array.getElem?_eq_some_iff.1 hg).1
  have b1 : But (fun b => b = g) w (wr.setCell ⟨g, 0, none⟩ (.slice ao X.length co)) := But.setCell (S := fun b => b = g) (But.of_below hB _) (p := ⟨g, 0, none⟩) (fun _ => rfl) _
  have hg2 : wr.heap[g]? = some (.cells #[.slice a n c] 50 (0, 0)) := (hB.block g hgl).trans hg
  have h3 := heap_setCell_same wr g 0 _ 50 (.slice ao X.length co) hg2
  have hO2 : (wr.setCell ⟨g, 0, none⟩ (.slice ao X.length co)).ownsRow w.heap.size 57 2 (.slice ao X.length co) X.length (flE X) := by
    refine ⟨hO.1, ?_⟩
    rcases hO.2 with h | ⟨q, cap, cur, e1, e2, e3, e4⟩
    · exact .inl h
    · exact .inr ⟨q, cap, cur, e1, e2, (Below.heap_setCell wr ⟨g, 0, none⟩ _ q (by show q ≠ g; omega)).trans e3, e4⟩
  subst hE
  refine ⟨⟨hng, ao, X.length, co, ?_, hasE_of_owns (w := w) hO2 (hX.but b1 hg (fun n e => by cases e)) (fun q hq hn => by have := hNo q hn; omega)⟩, b1⟩
  simpa using h3
theorem own_ev {w : World} {base : Nat} {g cap : Nat} {X : List EV} {z : EV} (h : w.ownsRow base 57 2 (.slice (some ⟨g, 0, none⟩) (X.length + 1) cap) (X.length + 1) (flE (X ++ [z]))) : w.ownsRow base 57 2 (.slice (some ⟨g, 0, none⟩) (X ++ [z]).length cap) (X ++ [z]).length (flE (X ++ [z])) := by
  rw [ev_len]; exact h
set_option maxHeartbeats 8000000 in
set_option maxRecDepth 100000 in
theorem rset_any (No : Nat → Prop) (w : World) (hNo : ∀ x, No x → x < w.heap.size) (g : Nat) (E : List Ent) (key : Str) (x : Option Addr) (m k : Nat) (l : List Int) (h : Rx No w g E) (hu : Ups E) (hE : E.length ≤ 1000) (Hl : HasU w x m k l ∧ ∀ q, 0 < m → (Value.slice x m k).ownBlock = some q → ¬ No q) (hm : m ≤ 1000000) :
    Calls Try.prog 53 #[.pointer (some ⟨g, 0, none⟩), .string key, .slice x m k] w fun e w' => e = .returned (.tuple #[]) ∧ Rx No w' g (st E key l) ∧ But (fun b => b = g) w w' := by
  obtain ⟨hng, a, n, c, hg, H⟩ := h
  have hl := hide H.hlen
  have i1 : (n : Int) ≤ 1000 := by have := H.hlen; omega
  have i2 : (m : Int) ≤ 1000000 := by omega
  have hgl : g < w.heap.size := (Array.getElem?_eq_some_iff.1 hg).1
  have cg : Hid (∀ W, Below w.heap.size w W → W.cell? ⟨g, 0, none⟩ = some (.slice a n c)) := fun W hW => (hW.cell (p := ⟨g, 0, none⟩) hgl).trans (cell_row hg 0 rfl)
  have fin : Hid (∀ (wr : World) (ao : Option Addr) (co : Nat) (X : List EV) (E' : List Ent), Xs No w X → wr.ownsRow w.heap.size 57 2 (.slice ao X.length co) X.length (flE X) → Below w.heap.size w wr → X.map Prod.fst = E' → Rx No (wr.setCell ⟨g, 0, none⟩ (.slice ao X.length co)) g E' ∧ But (fun b => b = g) w (wr.setCell ⟨g, 0, none⟩ (.slice ao X.length co))) := fun wr ao co X E' h1 h2 h3 h4 => set_end hg h1 hng hNo h2 h3 h4
  have fz : Hid (∀ W, Below w.heap.size w W → W.frozen? ⟨g, 0, none⟩ = false) := fun W hW => frozen_of_row W g 0 _ 50 ((hW.block g hgl).trans hg)
  have O := ownsE_empty w
  have B0 : Hid (Below w.heap.size w (w.alloc (.cells #[] 57))) := (Below.refl _ _).alloc (Nat.le_refl _) _
  have hst := hide (SetI.start key l)
  have hlm := Hl.1.hlen
  obtain ⟨d0, hd0⟩ : ∃ d0, decide (l = []) = d0 := ⟨_, rfl⟩
  have hdm : ((m : Int) == 0) = d0 := by
    rw [← hd0]
    cases l with
    | nil => simp at hlm; simp [← hlm]
    | cons p q => simp at hlm; simp; omega
  rw [hd0] at hst
  clear hd0 hlm
  replace hu := hide hu
  replace H := hide H
  replace O := hide O
  replace Hl := hide Hl
  replace hg := hide hg
  obtain ⟨w3, hw3⟩ : ∃ w3, w.alloc (.cells #[] 57) = w3 := ⟨_, rfl⟩
  rw [hw3] at O B0
  replace hw3 := hide hw3
  go_enter Try.func53, Try.ntmps53
  go_wp2_with fail
  rw [hw3.out]
  go_loopw [6, 7, 8] (fun vo vd vi wr => ∃ (i : Nat) (d : Bool) (ao : Option Addr) (co : Nat) (X : List EV), i ≤ n ∧ vo = .slice ao X.length co ∧ vd = .bool d ∧ vi = .int .i64 (i : Int) ∧ Hid (SetI (E.take i) key l d (X.map Prod.fst)) ∧ Hid (Xs No w X) ∧ Hid (wr.ownsRow w.heap.size 57 2 (.slice ao X.length co) X.length (flE X)) ∧ Hid (Below w.heap.size w wr)) (fun _ _ vi _ => n - (intOf vi).toNat)
  case atStart => exact ⟨0, d0, _, _, [], Nat.zero_le _, rfl, rfl, rfl, hst, xs_nil No w, O, B0⟩
  case round =>
    obtain ⟨i, d, ao, co, X, hi, rfl, rfl, rfl, hA, hX, hO, hB⟩ := hrel
    have hXl : X.length ≤ 1001 := by
      have := hA.out.len
      rw [List.length_map, List.length_take] at this
      omega
    have hsz := hB.out.size
    have cgr := cg.out wr hB.out
    by_cases hlt : i < n
    · have j1 : (i : Int) < (n : Int) := by omega
      have j2 : (0 : Int) ≤ (i : Int) := by omega
      obtain ⟨bb, off, x2, m2, k2, rfl, hbb, c1, c2, HU, _⟩ := H.out.cells i hlt
      have hil : i < E.length := by rw [hl.out]; exact hlt
      have hts := hide (take_succE (E := E) (i := i) hil)
      have hbf := hide (ups_before hu.out hil)
      have c1W : Hid (∀ W, Below w.heap.size w W → W.cell? ⟨bb, off + i * 2, none⟩ = some (.string (E.getD i dE).1)) := fun W hW => (hW.cell (p := ⟨bb, off + i * 2, none⟩) hbb).trans c1
      have c2W : Hid (∀ W, Below w.heap.size w W → W.cell? ⟨bb, off + i * 2 + 1, none⟩ = some (.slice x2 m2 k2)) := fun W hW => (hW.cell (p := ⟨bb, off + i * 2 + 1, none⟩) hbb).trans c2
      clear c1 c2 hil
      generalize E.getD i dE = t at *
      obtain ⟨tk, tl⟩ := t
      replace HU := hide HU
      have c1r := c1W.out wr hB.out
      have c2r := c2W.out wr hB.out
      cases d with
      | false =>
        by_cases hkt : kl tk key
        · -- ahead of the key
          have hne : ¬ tk = key := kl_ne hkt
          have k1 := kl_less hkt
          have k3 := keys_ne hne
          have hmid := hA.out.next (t := (tk, tl)) (.inr hkt) hbf.out
          rw [← hts.out, if_neg hne] at hmid
          replace hmid := hide hmid
          have hX2 := hide (hX.out.push (e := (tk, tl)) HU.out)
          replace hkt := hide hkt
          replace hne := hide hne
          have cAt : (wr.alloc (.cells #[.string tk, .slice x2 m2 k2] 57)).cell? ⟨wr.heap.size, 0, none⟩ = some (.string tk) := cell_row (heap_alloc_new wr _) 0 rfl
          have cBt : (wr.alloc (.cells #[.string tk, .slice x2 m2 k2] 57)).cell? ⟨wr.heap.size, 1, none⟩ = some (.slice x2 m2 k2) := cell_row (heap_alloc_new wr _) 1 rfl
          have hOt : Hid ((wr.alloc (.cells #[.string tk, .slice x2 m2 k2] 57)).ownsRow w.heap.size 57 2 (.slice ao X.length co) X.length (flE X)) := hO.out.alloc _
          go_wp2_with (first | (at_builtin; refine wpList_pushE (w0 := w) rfl (.tmp 52) (.tmp 60) rfl w.heap.size _ _ X rfl hOt.out wr.heap.size (tk, tl) (.slice x2 m2 k2) rfl rfl cAt cBt (by simp; omega) (by simp; omega) ?_; intro q cap w6 hO6 hg6; have Bw6 : Hid (Below w.heap.size w w6) := (hB.out.alloc (by omega) _).grown hg6 (by simp; omega) (fun k hk => (hOt.out.lt k hk).1); have zw6 := Bw6.out.size; replace hO6 := hide (own_ev hO6); clear hg6))
          go_roundw
          case rel => exact ⟨i + 1, false, some ⟨q, 0, none⟩, cap, X ++ [((tk, tl), Value.slice x2 m2 k2)], by omega, by rw [ev_len], rfl, by go_num, by rw [List.map_append]; exact hmid, hX2, hO6, Bw6⟩
          case measure => simp [intOf]; omega
        · have k1 := kl_nless hkt
          have hmid := hA.out.mid (t := (tk, tl)) hkt
          rw [← hts.out] at hmid
          have hX2 := hide (hX.out.push (e := (key, l)) Hl.out)
          have cAk : (wr.alloc (.cells #[.string key, .slice x m k] 57)).cell? ⟨wr.heap.size, 0, none⟩ = some (.string key) := cell_row (heap_alloc_new wr _) 0 rfl
          have cBk : (wr.alloc (.cells #[.string key, .slice x m k] 57)).cell? ⟨wr.heap.size, 1, none⟩ = some (.slice x m k) := cell_row (heap_alloc_new wr _) 1 rfl
          have hOk : Hid ((wr.alloc (.cells #[.string key, .slice x m k] 57)).ownsRow w.heap.size 57 2 (.slice ao X.length co) X.length (flE X)) := hO.out.alloc _
          by_cases hne : tk = key
          · have k3 := keys_eq hne
            rw [if_pos hne] at hmid
            replace hmid := hide hmid
            replace hkt := hide hkt
            replace hne := hide hne
            go_wp2_with (first | (at_builtin; refine wpList_pushE (w0 := w) rfl (.tmp 36) (.tmp 40) rfl w.heap.size _ _ X rfl hOk.out wr.heap.size (key, l) (.slice x m k) rfl rfl cAk cBk (by simp; omega) (by simp; omega) ?_; intro q cap w6 hO6 hg6; have Bw6 : Hid (Below w.heap.size w w6) := (hB.out.alloc (by omega) _).grown hg6 (by simp; omega) (fun k hk => (hOk.out.lt k hk).1); have zw6 := Bw6.out.size; replace hO6 := hide (own_ev hO6); clear hg6; have cg6 := cg.out w6 Bw6.out; have c16 := c1W.out w6 Bw6.out; have c26 := c2W.out w6 Bw6.out))
            go_roundw
            case rel => exact ⟨i + 1, true, some ⟨q, 0, none⟩, cap, X ++ [((key, l), Value.slice x m k)], by omega, by rw [ev_len], rfl, by go_num, by rw [List.map_append]; exact hmid, hX2, hO6, Bw6⟩
            case measure => simp [intOf]; omega
          · have k3 := keys_ne hne
            rw [if_neg hne] at hmid
            replace hmid := hide hmid
            replace hkt := hide hkt
            replace hne := hide hne
            have hX3 := hide (hX2.out.push (e := (tk, tl)) HU.out)
            go_wp2_with (first | (at_builtin; refine wpList_pushE (w0 := w) rfl (.tmp 36) (.tmp 40) rfl w.heap.size _ _ X rfl hOk.out wr.heap.size (key, l) (.slice x m k) rfl rfl cAk cBk (by simp; omega) (by simp; omega) ?_; intro q cap w6 hO6 hg6; have Bw6 : Hid (Below w.heap.size w w6) := (hB.out.alloc (by omega) _).grown hg6 (by simp; omega) (fun k hk => (hOk.out.lt k hk).1); have zw6 := Bw6.out.size; replace hO6 := hide (own_ev hO6); clear hg6; have cg6 := cg.out w6 Bw6.out; have c16 := c1W.out w6 Bw6.out; have c26 := c2W.out w6 Bw6.out; have cAt : (w6.alloc (.cells #[.string tk, .slice x2 m2 k2] 57)).cell? ⟨w6.heap.size, 0, none⟩ = some (.string tk) := cell_row (heap_alloc_new w6 _) 0 rfl; have cBt : (w6.alloc (.cells #[.string tk, .slice x2 m2 k2] 57)).cell? ⟨w6.heap.size, 1, none⟩ = some (.slice x2 m2 k2) := cell_row (heap_alloc_new w6 _) 1 rfl; have hOt : Hid ((w6.alloc (.cells #[.string tk, .slice x2 m2 k2] 57)).ownsRow w.heap.size 57 2 (.slice (some ⟨q, 0, none⟩) (X.length + 1) cap) (X.length + 1) (flE (X ++ [((key, l), Value.slice x m k)]))) := (by have h := hO6.out.alloc (.cells #[.string tk, .slice x2 m2 k2] 57); rw [ev_len] at h; exact h)) | (at_builtin; refine wpList_pushE (w0 := w) rfl (.tmp 52) (.tmp 60) rfl w.heap.size _ _ (X ++ [((key, l), Value.slice x m k)]) rfl hOt.out w6.heap.size (tk, tl) (.slice x2 m2 k2) rfl rfl cAt cBt (by omega) (by simp; omega) ?_; intro q2 cap2 w7 hO7 hg6; have Bw7 : Hid (Below w.heap.size w w7) := (Bw6.out.alloc (by omega) _).grown hg6 (by simp; omega) (fun k hk => (hOt.out.lt k hk).1); have zw7 := Bw7.out.size; replace hO7 := hide hO7; clear hg6))
            go_roundw
            case rel => exact ⟨i + 1, true, some ⟨q2, 0, none⟩, cap2, X ++ [((key, l), Value.slice x m k)] ++ [((tk, tl), Value.slice x2 m2 k2)], by omega, by rw [ev_len, ev_len], rfl, by go_num, by rw [List.map_append, List.map_append]; exact hmid, hX3, by rw [ev_len, ev_len]; exact hO7, Bw7⟩
            case measure => simp [intOf]; omega
      | true =>
        have hmid := hA.out.next (t := (tk, tl)) (.inl rfl) hbf.out
        rw [← hts.out] at hmid
        by_cases hne : tk = key
        · have k3 := keys_eq hne
          rw [if_pos hne] at hmid
          replace hmid := hide hmid
          replace hne := hide hne
          go_wp2_with fail
          go_roundw
          case rel => exact ⟨i + 1, true, ao, co, X, by omega, rfl, rfl, by go_num, hmid, hX, hO, hB⟩
          case measure => simp [intOf]; omega
        · have k3 := keys_ne hne
          rw [if_neg hne] at hmid
          replace hmid := hide hmid
          replace hne := hide hne
          have hX2 := hide (hX.out.push (e := (tk, tl)) HU.out)
          have cAt : (wr.alloc (.cells #[.string tk, .slice x2 m2 k2] 57)).cell? ⟨wr.heap.size, 0, none⟩ = some (.string tk) := cell_row (heap_alloc_new wr _) 0 rfl
          have cBt : (wr.alloc (.cells #[.string tk, .slice x2 m2 k2] 57)).cell? ⟨wr.heap.size, 1, none⟩ = some (.slice x2 m2 k2) := cell_row (heap_alloc_new wr _) 1 rfl
          have hOt : Hid ((wr.alloc (.cells #[.string tk, .slice x2 m2 k2] 57)).ownsRow w.heap.size 57 2 (.slice ao X.length co) X.length (flE X)) := hO.out.alloc _
          go_wp2_with (first | (at_builtin; refine wpList_pushE (w0 := w) rfl (.tmp 52) (.tmp 60) rfl w.heap.size _ _ X rfl hOt.out wr.heap.size (tk, tl) (.slice x2 m2 k2) rfl rfl cAt cBt (by simp; omega) (by simp; omega) ?_; intro q cap w6 hO6 hg6; have Bw6 : Hid (Below w.heap.size w w6) := (hB.out.alloc (by omega) _).grown hg6 (by simp; omega) (fun k hk => (hOt.out.lt k hk).1); have zw6 := Bw6.out.size; replace hO6 := hide (own_ev hO6); clear hg6))
          go_roundw
          case rel => exact ⟨i + 1, true, some ⟨q, 0, none⟩, cap, X ++ [((tk, tl), Value.slice x2 m2 k2)], by omega, by rw [ev_len], rfl, by go_num, by rw [List.map_append]; exact hmid, hX2, hO6, Bw6⟩
          case measure => simp [intOf]; omega
    · obtain rfl : i = n := by omega
      have j1 : ¬ (i : Int) < (i : Int) := by omega
      have hAA := hA.out
      rw [List.take_of_length_le (by rw [hl.out]; exact Nat.le_refl _)] at hAA
      cases d with
      | true =>
        have F := hide (fin.out wr ao co X _ hX.out hO.out hB.out (setI_done hAA))
        have f0 := fz.out wr hB.out
        clear hAA
        go_wp2_with fail
        go_end0
        exact ⟨rfl, F.out⟩
      | false =>
        have hq := hide (setI_push (z := .slice x m k) hAA)
        clear hAA
        have hX2 := hide (hX.out.push (e := (key, l)) Hl.out)
        have cAk : (wr.alloc (.cells #[.string key, .slice x m k] 57)).cell? ⟨wr.heap.size, 0, none⟩ = some (.string key) := cell_row (heap_alloc_new wr _) 0 rfl
        have cBk : (wr.alloc (.cells #[.string key, .slice x m k] 57)).cell? ⟨wr.heap.size, 1, none⟩ = some (.slice x m k) := cell_row (heap_alloc_new wr _) 1 rfl
        have hOk : Hid ((wr.alloc (.cells #[.string key, .slice x m k] 57)).ownsRow w.heap.size 57 2 (.slice ao X.length co) X.length (flE X)) := hO.out.alloc _
        go_wp2_with (first | (at_builtin; refine wpList_pushE (w0 := w) rfl (.tmp 64) (.tmp 68) rfl w.heap.size _ _ X rfl hOk.out wr.heap.size (key, l) (.slice x m k) rfl rfl cAk cBk (by simp; omega) (by simp; omega) ?_; intro q cap w6 hO6 hg6; have Bw6 : Hid (Below w.heap.size w w6) := (hB.out.alloc (by omega) _).grown hg6 (by simp; omega) (fun k hk => (hOk.out.lt k hk).1); have zw6 := Bw6.out.size; replace hO6 := hide (own_ev hO6); clear hg6; have cg6 := cg.out w6 Bw6.out; have f0 := fz.out w6 Bw6.out))
        go_end0
        have F := fin.out w6 (some ⟨q, 0, none⟩) cap (X ++ [((key, l), Value.slice x m k)]) _ hX2.out hO6.out Bw6.out hq.out
        rw [ev_len] at F
        exact ⟨rfl, F⟩
end Go.Proofs.Ythkfbdcocnhebaa
