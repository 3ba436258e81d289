/-
  How many sectors records need: the walk of count, where none is too long; the iterators' contracts as a range over a function asks them.
-/
import Derived.Test.YtbaclihlckfndaaDoorM
namespace Go.Proofs.YtbaclihlckfndaaDoor
open Go.RowKit Go.Shelf
set_option linter.unusedVariables false
attribute [local go_sem] Oper.semAt_some

def needR (x : List Int) : Nat := max ((x.length + 243) / 244) 1
def needL : List (List Int) → Nat
  | [] => 0
  | x :: ls => needR x + needL ls
theorem cutR_len (k : Nat) : ∀ (nx fl : Nat) (x : List Int), x.length ≤ k → (cutR nx fl x).length = needR x := by
  induction k using Nat.strongRecOn with
  | ind k ih =>
    intro nx fl x hx
    by_cases h : 244 < x.length
    · rw [cutR_long h, List.length_cons, ih (x.length - 244) (by omega) _ _ _ (by simp)]
      unfold needR
      simp
      omega
    · rw [cutR_short (by omega)]
      unfold needR
      simp
      omega
theorem cutAll_len (nx : Nat) (ls : List (List Int)) : (cutAll nx ls).length = needL ls := by
  induction ls generalizing nx with
  | nil => rfl
  | cons x ls ih => simp only [cutAll, needL, List.length_append]; rw [ih, cutR_len x.length _ _ _ (Nat.le_refl _)]
theorem needL_app (l m : List (List Int)) : needL (l ++ m) = needL l + needL m := by
  induction l with
  | nil => simp [needL]
  | cons x l ih => simp [needL, ih]; omega
theorem needL_take {ls : List (List Int)} {k : Nat} (h : k < ls.length) : needL (ls.take (k + 1)) = needL (ls.take k) + needR (ls.getD k []) := by
  rw [List.take_add_one, List.getElem?_eq_getElem h, needL_app]
  simp [needL, List.getD, List.getElem?_eq_getElem h]
theorem needL_le {ls : List (List Int)} (h : ∀ x ∈ ls, x.length ≤ 65536) (k : Nat) : needL (ls.take k) ≤ 300 * k := by
  induction ls generalizing k with
  | nil => simp [needL]
  | cons x ls ih =>
    cases k with
    | zero => simp [needL]
    | succ k =>
      have h1 := ih (fun y hy => h y (by simp [hy])) k
      have h2 := h x (by simp)
      simp only [List.take_succ_cons, needL]
      unfold needR
      omega

set_option maxHeartbeats 1000000 in
theorem count_ok (w : World) (a : Option Addr) (len cap : Nat) (ls : List (List Int)) (h : HasL w a len cap ls) (hl : len ≤ 4096) (hx : ∀ x ∈ ls, x.length ≤ 65536) :
    Calls Tryd.prog 23 #[.slice a len cap] w fun e w' => e = .returned (.tuple #[.int .i64 (needL ls : Nat), .int .i64 0]) ∧ w' = w := by
  have hlen := h.hlen
  have hcells := hide h.cells
  have i1 : (len : Int) ≤ 4096 := by omega
  replace hx := hide hx
  clear h
  go_enter Tryd.func23, Tryd.ntmps23
  go_wp2
  go_loop [4, 12, 6] (fun v i _ => ∃ (k q : Nat), k ≤ len ∧ v = .int .i64 (q : Int) ∧ i = .int .i64 k ∧ Hid (q = needL (ls.take k))) (fun _ i _ => len - (intOf i).toNat)
  case atStart => exact ⟨0, 0, Nat.zero_le _, rfl, rfl, (by simp [needL] : (0 : Nat) = needL (ls.take 0))⟩
  case round =>
    obtain ⟨k, q, hk, rfl, rfl, hq⟩ := hrel
    by_cases hkl : k < len
    · obtain ⟨b, off, rfl, hbl, hcl⟩ := hcells.out (by omega)
      obtain ⟨ai, ni, ci, hc, hHi⟩ := hcl k hkl
      have hni := hHi.hlen
      have hxk : (ls.getD k []).length ≤ 65536 := by
        have : ls.getD k [] = ls[k]'(by omega) := by simp [List.getD, List.getElem?_eq_getElem (show k < ls.length by omega)]
        rw [this]; exact hx.out _ (List.getElem_mem _)
      have hnew : Hid (q + max ((ni + 243) / 244) 1 = needL (ls.take (k + 1))) := by
        show _ = _
        rw [needL_take (by omega), ← hq.out, needR, hni]
      have hqb : q ≤ 300 * k := by rw [hq.out]; exact needL_le hx.out k
      have j1 : (ni : Int) ≤ 65536 := by omega
      have j2 : (q : Int) ≤ 1228800 := by omega
      clear hcl hHi
      replace hqb := hide hqb
      by_cases hm : 1 ≤ (ni + 243) / 244
      · have hm' : (1 : Int) ≤ ((ni : Int) + 243) / 244 := by omega
        go_wp2
        go_round
        case rel => exact ⟨k + 1, q + max ((ni + 243) / 244) 1, by omega, v64 (by simp [Nat.max_eq_left hm]; try omega), by go_num, hnew⟩
        case measure => simp [intOf]; omega
      · have hm' : ((ni : Int) + 243) / 244 < 1 := by omega
        go_wp2
        go_round
        case rel => exact ⟨k + 1, q + max ((ni + 243) / 244) 1, by omega, v64 (by rw [Nat.max_eq_right (by omega)]; omega), by go_num, hnew⟩
        case measure => simp [intOf]; omega
    · obtain rfl : k = len := by omega
      go_wp2
      go_ret2
      exact ⟨by rw [hq.out, ← hlen, List.take_length]; rfl, rfl⟩

theorem split_stops (n : Nat) (hn : 1 ≤ n) (B1 B2 n₀ : Nat) (a : Option Addr) (len cap number : Nat) (ls : List (List Int)) (w w0 : World) (hB1 : B1 < w.heap.size) (hB2 : B2 < w.heap.size) (hn₀ : n₀ ≤ w.heap.size)
    (hc1 : w.cell? ⟨B1, 0, none⟩ = some (.int .i64 (number : Int))) (hc2 : w.cell? ⟨B2, 0, none⟩ = some (.slice a len cap)) (hh : HasL w0 a len cap ls) (hw0 : w0.heap.size = n₀) (hb0 : Below n₀ w0 w) (hnum : number + needL ls ≤ 4294967296) :
    SeqStopsK Fence.wide n Tryd.prog 31 #[.pointer (some ⟨B1, 0, none⟩), .pointer (some ⟨B2, 0, none⟩)] (fun x : Part w0 => #[x.val]) (Below n₀) (fun ys => ys.map (·.p) = cutAll number ls) (fun _ => True) (needL ls) w := fun l J Jx W hW hA _ hY h0 => by
  have hc1' := (hW.cell (p := ⟨B1, 0, none⟩) hB1).trans hc1
  have hc2' := (hW.cell (p := ⟨B2, 0, none⟩) hB2).trans hc2
  rw [← cutAll_len number ls] at hY hnum
  exact split1_in n hn l B1 B2 n₀ a len cap number ls w0 hh hw0 hnum J Jx W hA hY (hb0.trans (hW.mono hn₀)) hc1' hc2' h0

theorem right_stops (n : Nat) (hn : 1 ≤ n) (B1 B2 n₀ : Nat) (a : Option Addr) (len cap number : Nat) (zs : List Int) (w w0 : World) (hB1 : B1 < w.heap.size) (hB2 : B2 < w.heap.size) (hn₀ : n₀ ≤ w.heap.size)
    (hc1 : w.cell? ⟨B1, 0, none⟩ = some (.int .i64 (number : Int))) (hc2 : w.cell? ⟨B2, 0, none⟩ = some (.slice a len cap)) (hh : Has w0 a len cap zs) (ht : Tab w0) (hw0 : w0.heap.size = n₀) (hb0 : Below n₀ w0 w) (hnum : number ≤ 4294967296) :
    SeqStopsK Fence.wide n Tryd.prog 36 #[.pointer (some ⟨B1, 0, none⟩), .pointer (some ⟨B2, 0, none⟩)] (fun x : Part w0 => #[x.val]) (Kp53 n₀) (fun ys => Rights number false zs (ys.map (·.p))) (fun _ => True) zs.length w := fun l J Jx W hW hA _ hY h0 => by
  have hc1' := (hW.cell (p := ⟨B1, 0, none⟩) hB1).trans hc1
  have hc2' := (hW.cell (p := ⟨B2, 0, none⟩) hB2).trans hc2
  exact right1_in n hn l B1 B2 n₀ a len cap number zs w0 hh hw0 ht hnum J Jx W hA hY (hb0.trans (hW.mono hn₀)) hc1' hc2' h0
end Go.Proofs.YtbaclihlckfndaaDoor
