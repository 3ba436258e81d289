/-
  What was written is read back; the walk of works.
-/
import Derived.Test.YtbaclihlckfndaaDoorW
import Derived.Lib.SlBytesConst
namespace Go.Proofs.YtbaclihlckfndaaDoor
open Go.RowKit Go.Shelf
set_option linter.unusedVariables false

theorem none_short {nx : Nat} {op : Bool} {r : List Int} (h : r.length < 256) : ¬ ∃ q, Next nx op r q := fun ⟨q, hq⟩ => by
  have := begins_len hq.1
  omega
theorem rights_cutAll (number : Nat) (ls : List (List Int)) (hb : ∀ x ∈ ls, Byts x) (hn : number + needL ls ≤ 4294967296) (r : List Int) (hr : ¬ ∃ q, Next (number + needL ls) false r q) : Rights number false (secs (cutAll number ls) ++ r) (cutAll number ls) := by
  have h := chain_cutAll ls number hb (by rw [cutAll_len]; exact hn)
  refine rights_secs _ r _ _ h.1 ?_
  rw [cutAll_len, h.2]
  exact hr
theorem run_back (number : Nat) (ls : List (List Int)) : St.none.run (cutAll number ls) = ⟨ls, [], needL ls, needL ls⟩ := by
  rw [run_cutAll ls number St.none rfl rfl]
  simp [St.none]
theorem secs_length (ps : List Says) (h : ∀ p ∈ ps, p.bytes.length ≤ 244) : (secs ps).length = 256 * ps.length := by
  induction ps with
  | nil => rfl
  | cons p ps ih =>
    have h1 : p.sec.length = 256 := sec_len (h p (by simp))
    have := ih (fun q hq => h q (by simp [hq]))
    simp only [secs, List.map_cons, List.flatten_cons, List.length_append, List.length_cons] at this ⊢
    rw [h1, this]; omega
theorem chain_ok (ps : List Says) : ∀ (nx : Nat) (op : Bool), Chain nx op ps → ∀ p ∈ ps, p.Ok := by
  induction ps with
  | nil => intro _ _ _ p hp; cases hp
  | cons q ps ih =>
    intro nx op h p hp
    rcases List.mem_cons.1 hp with rfl | hp
    · exact h.1
    · exact ih _ _ h.2.2.2 p hp
theorem cutAll_ok {number : Nat} {ls : List (List Int)} (hb : ∀ x ∈ ls, Byts x) (hn : number + needL ls ≤ 4294967296) : ∀ p ∈ cutAll number ls, p.Ok :=
  chain_ok _ _ _ (chain_cutAll ls number hb (by rw [cutAll_len]; exact hn)).1
theorem secs_cut_len {number : Nat} {ls : List (List Int)} (hb : ∀ x ∈ ls, Byts x) (hn : number + needL ls ≤ 4294967296) : (secs (cutAll number ls)).length = 256 * needL ls := by
  rw [secs_length _ (fun p hp => (cutAll_ok hb hn p hp).len), cutAll_len]
theorem HasL.byts {w : World} {a : Option Addr} {len cap : Nat} {ls : List (List Int)} (h : HasL w a len cap ls) : ∀ x ∈ ls, Byts x := by
  intro x hx
  obtain ⟨i, hi, rfl⟩ := List.getElem_of_mem hx
  have hl := h.hlen
  obtain ⟨b, off, _, _, hc⟩ := h.cells (by omega)
  obtain ⟨_, _, _, _, hH⟩ := hc i (by omega)
  have : ls.getD i [] = ls[i] := by simp [List.getD, List.getElem?_eq_getElem hi]
  rw [this] at hH
  exact hH.bytes
/-- What is read of written sectors, with something behind them that does not fit. -/
theorem read_back (w : World) (number : Nat) (a : Option Addr) (len cap : Nat) (ls : List (List Int)) (r : List Int) (h : Has w a len cap (secs (cutAll number ls) ++ r)) (hl : len ≤ 16777216) (hb : ∀ x ∈ ls, Byts x) (hn : number + needL ls ≤ 4294967296) (hn1 : number ≤ 4294967295) (hr : ¬ ∃ q, Next (number + needL ls) false r q) (ht : Tab w) :
    Calls Tryd.prog 16 #[.int .i64 (number : Int), .slice a len cap] w (Reads w ⟨ls, [], needL ls, needL ls⟩) :=
  (read_any w number a len cap _ h hl hn1 ht).mono fun e w' ⟨ps, h1, h2⟩ => by
    rw [← rights_once (rights_cutAll number ls hb hn r hr) h1, run_back] at h2
    exact h2

/-- Two slices in a row of their own. -/
theorem hasL_two (w : World) (a b : Option Addr) (n m c d : Nat) (l k : List Int) (h : Has w a n c l) (h' : Has w b m d k) :
    HasL (w.alloc (.cells #[.slice a n c, .slice b m d] 24)) (some ⟨w.heap.size, 0, none⟩) 2 2 [l, k] := by
  have B : Below w.heap.size w (w.alloc (.cells #[.slice a n c, .slice b m d] 24)) := (Below.refl _ _).alloc (Nat.le_refl _) _
  have hh := heap_alloc_new w (.cells #[.slice a n c, .slice b m d] 24)
  refine ⟨rfl, Nat.le_refl _, by unfold maxLen; decide, (fun e => by cases e), fun _ => ⟨_, 0, rfl, by simp, fun i hi => ?_⟩⟩
  match i, hi with
  | 0, _ => exact ⟨a, n, c, by simp [cell_of_row _ _ _ _ _ _ hh], h.kept B (Nat.le_refl _)⟩
  | 1, _ => exact ⟨b, m, d, by simp [cell_of_row _ _ _ _ _ _ hh], h'.kept B (Nat.le_refl _)⟩

theorem has_mark (w : World) (xs : List Int) (fr : Nat × Nat) (hb : ∀ x ∈ xs, 0 ≤ x ∧ x ≤ 255) (hm : xs.length ≤ maxLen) : Has (w.alloc (.cells (xs.map (Value.int .u8)).toArray 5 fr)) (some ⟨w.heap.size, 0, none⟩) xs.length xs.length xs := by
  refine ⟨rfl, Nat.le_refl _, hm, (fun h => by cases h), fun _ => ⟨w.heap.size, 0, rfl, by simp, fun i hi => ?_⟩, hb⟩
  have e := cell_of_row (w.alloc (.cells (xs.map (Value.int .u8)).toArray 5 fr)) w.heap.size (0 + i) _ 5 fr (heap_alloc_new w _)
  rw [e]
  simp [List.getElem?_eq_getElem hi]

def wls : List (List Int) := [[97], List.replicate 300 0]
theorem wls_byts : ∀ x ∈ wls, Byts x := by
  intro x hx
  simp [wls, -List.reduceReplicate] at hx
  rcases hx with rfl | rfl
  · exact byts_one (by decide)
  · exact byts_zeros 300
theorem wls_need : needL wls = 3 := by simp [wls, needL, needR, -List.reduceReplicate]

set_option maxRecDepth 100000 in
set_option maxHeartbeats 2000000 in
theorem works_any (w : World) (ht : Tab w) : Calls Tryd.prog 14 #[] w fun e w' => e = .returned (.bool true) ∧ Below w.heap.size w w' := by
  have hp := ht.pos
  have B1 : Below w.heap.size w (w.alloc (.cells #[.int .u8 97] 5 (1, 2))) := (Below.refl _ _).alloc (Nat.le_refl _) _
  have H1 : Hid (Has (w.alloc (.cells #[.int .u8 97] 5 (1, 2))) (some ⟨w.heap.size, 0, none⟩) 1 1 [97]) := has_mark w [97] (1, 2) (by decide) (by unfold maxLen; decide)
  have kc := fun (w : World) (C : Array Value) (n c : Nat) => Lib.run_convert_bytes_const (P := Tryd.prog) w 24 5 C n c Tryd.underlying24 Tryd.underlying5
  have hwb := hide wls_byts
  have hwn := wls_need
  replace ht := hide ht
  go_enter Tryd.func14, Tryd.ntmps14
  go_wp2_with (first
    | (refine wpList_make2 rfl (.const (.int .i64 300)) (.const (.int .i64 300)) rfl 300 300 _ _ rfl rfl rfl rfl (Nat.le_refl _) (by omega) ?_
       intro w2 O2 B2
       obtain ⟨a2, c2, e2, H2⟩ := has_of_owns O2 (byts_zeros 300)
       have e3 := e2
       cases e3
       have T2 : Hid (Below w.heap.size w w2) := B1.trans (B2.mono (by simp))
       have HL := hide (hasL_two w2 _ _ _ _ _ _ _ _ (H1.out.kept B2 (Nat.le_refl _)) H2)
       simp only [World.size_alloc] at HL
       replace B2 := hide B2
       replace H2 := hide H2
       clear O2 e2)
    | (go_at_call 9
       have T3 : Below w.heap.size w (w2.alloc (.cells #[.slice (some ⟨w.heap.size, 0, none⟩) 1 1, .slice (some ⟨w.heap.size + 1, 0, none⟩) 300 300] 24)) := T2.out.alloc T2.out.size _
       refine (write_any _ 5 _ 2 2 wls HL.out (by omega) (by simp [wls, -List.reduceReplicate]) (by rw [hwn]; omega) (by omega) (ht.out.kept T3 hp)).mono ?_
       rintro e w4 ⟨a4, n4, c4, rfl, H4, B4⟩
       replace T3 := hide (T3.trans (B4.mono T3.size))
       obtain rfl : n4 = 768 := by rw [← H4.hlen, secs_cut_len hwb.out (by rw [hwn]; omega), hwn]
       replace B4 := hide B4
       replace H4 := hide H4)
    | (go_at_call 16
       refine (read_back _ 5 _ _ _ wls [] (by simpa using H4.out) (by omega) hwb.out (by rw [hwn]; omega) (by omega) (none_short (by simp)) (ht.out.kept T3.out hp)).mono ?_
       rintro e w5 ⟨a5, c5, rfl, H5, B5⟩
       obtain ⟨b, off, rfl, _, hcl⟩ := H5.cells (by simp [wls, -List.reduceReplicate])
       obtain ⟨ai, ni, ci, f0, g0⟩ := hcl 0 (by simp [wls, -List.reduceReplicate])
       obtain ⟨bi, mi, di, f1, g1⟩ := hcl 1 (by simp [wls, -List.reduceReplicate])
       obtain rfl : ni = 1 := by have := g0.hlen; simpa [wls, -List.reduceReplicate] using this.symm
       obtain rfl : mi = 300 := by have := g1.hlen; simpa [wls, -List.reduceReplicate] using this.symm
       have T5 := hide (T3.out.trans (B5.mono T3.out.size))
       simp only [Nat.add_zero] at f0
       have el : ((wls.length : Nat) : Int) = 2 := rfl
       clear H5 hcl g0 g1 B5))
  go_ret
  exact ⟨rfl, T5.out⟩
end Go.Proofs.YtbaclihlckfndaaDoor
