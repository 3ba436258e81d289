/-
  The sectors of records: as a list, and the walk of the iterator over them.
-/
import Derived.Test.YtbaclihlckfndaaDoorL
namespace Go.Proofs.YtbaclihlckfndaaDoor
open Go.RowKit Go.Shelf
set_option linter.unusedVariables false
attribute [local go_sem] Oper.semAt_some

/-- The parts of one record, of which so much is left. -/
def cutR (nx fl : Nat) (x : List Int) : List Says :=
  if h : 244 < x.length then ⟨nx, x.take 244, fl⟩ :: cutR (nx + 1) 0 (x.drop 244) else [⟨nx, x, fl + 2⟩]
termination_by x.length
decreasing_by simp; omega
/-- The parts of records. -/
def cutAll (nx : Nat) : List (List Int) → List Says
  | [] => []
  | x :: ls => cutR nx 1 x ++ cutAll (nx + (cutR nx 1 x).length) ls
theorem cutR_long {nx fl : Nat} {x : List Int} (h : 244 < x.length) : cutR nx fl x = ⟨nx, x.take 244, fl⟩ :: cutR (nx + 1) 0 (x.drop 244) := by rw [cutR, dif_pos h]
theorem cutR_short {nx fl : Nat} {x : List Int} (h : x.length ≤ 244) : cutR nx fl x = [⟨nx, x, fl + 2⟩] := by rw [cutR, dif_neg (by omega)]
theorem cutR_pos (nx fl : Nat) (x : List Int) : 0 < (cutR nx fl x).length := by
  by_cases h : 244 < x.length
  · rw [cutR_long h]; simp
  · rw [cutR_short (by omega)]; simp

/-- In the world w the slice of slices (a, len, cap) has the lists ls. -/
structure HasL (w : World) (a : Option Addr) (len cap : Nat) (ls : List (List Int)) : Prop where
  hlen : ls.length = len
  le : len ≤ cap
  capb : cap ≤ maxLen
  nil : a = none → cap = 0
  cells : 0 < len → ∃ b off, a = some ⟨b, off, none⟩ ∧ b < w.heap.size ∧ ∀ i, i < len → ∃ ai ni ci, w.cell? ⟨b, off + i, none⟩ = some (.slice ai ni ci) ∧ Has w ai ni ci (ls.getD i [])
theorem HasL.kept {w w' : World} {a : Option Addr} {len cap : Nat} {ls : List (List Int)} {B : Nat} (h : HasL w a len cap ls) (hb : Below B w w') (hB : w.heap.size ≤ B) : HasL w' a len cap ls := by
  refine ⟨h.hlen, h.le, h.capb, h.nil, fun hp => ?_⟩
  obtain ⟨b, off, e1, e2, e3⟩ := h.cells hp
  refine ⟨b, off, e1, Nat.lt_of_lt_of_le e2 hb.size, fun i hi => ?_⟩
  obtain ⟨ai, ni, ci, f1, f2⟩ := e3 i hi
  exact ⟨ai, ni, ci, (hb.cell (p := ⟨b, off + i, none⟩) (Nat.lt_of_lt_of_le e2 hB)).trans f1, f2.kept hb hB⟩

set_option maxHeartbeats 1000000 in
theorem split_in (n : Nat) (x : Int) (a : Option Addr) (len cap : Nat) (w : World) :
    CallsIn Fence.wide n Tryd.prog 25 #[.int .i64 x, .slice a len cap] w fun e w' => e = .returned (.func (.func 31) #[] #[.pointer (some ⟨w.heap.size, 0, none⟩), .pointer (some ⟨w.heap.size + 1, 0, none⟩)]) ∧ w' = (w.alloc (.cells #[.int .i64 x] 3)).alloc (.cells #[.slice a len cap] 22) := by
  refine callsIn_of_wp Tryd.func25 rfl trivial ?_ rfl
  simp only [Tryd.ntmps25, List.size_toArray, List.length_cons, List.length_nil, Nat.reduceAdd, Nat.reduceSub, Array.replicate_succ, Array.replicate_zero, List.push_toArray, List.append_toArray, List.nil_append, List.cons_append]
  gi_wp2
  go_ret
  exact ⟨rfl, rfl⟩

theorem ls_drop {ls : List (List Int)} {i : Nat} (h : i < ls.length) : ls.drop i = ls.getD i [] :: ls.drop (i + 1) := by
  rw [List.drop_eq_getElem_cons h]
  simp [List.getD, List.getElem?_eq_getElem h]

set_option maxRecDepth 100000 in
set_option maxHeartbeats 4000000 in
theorem split1_in (n : Nat) (hn : 1 ≤ n) (y B1 B2 n₀ : Nat) (a : Option Addr) (len cap number : Nat) (ls : List (List Int)) (w0 : World) (hh : HasL w0 a len cap ls) (hw0 : w0.heap.size = n₀) (hnum : number + (cutAll number ls).length ≤ 4294967296) (J Jx : List (Part w0) → World → Prop)
    (W : World) (hAJ : AbidesFrom W.heap.size J)
    (hY : ∀ pre (x : Part w0) W, J pre W → pre.length < (cutAll number ls).length → YieldAt Fence.wide (n - 1) Tryd.prog y #[x.val] W fun e W' =>
      (e = .returned (.bool true) ∧ J (pre ++ [x]) W' ∧ Below n₀ W W') ∨ (e = .returned (.bool false) ∧ Jx (pre ++ [x]) W'))
    (hb0 : Below n₀ w0 W) (hB1 : W.cell? ⟨B1, 0, none⟩ = some (.int .i64 (number : Int))) (hB2 : W.cell? ⟨B2, 0, none⟩ = some (.slice a len cap)) (h0 : J [] W) :
    CallsIn Fence.wide n Tryd.prog 31 #[.func (.yield y) #[] #[], .pointer (some ⟨B1, 0, none⟩), .pointer (some ⟨B2, 0, none⟩)] W fun e W' => (∃ v, e = .returned v) ∧
      ((∃ ys, ys.map (·.p) = cutAll number ls ∧ J ys W') ∨ (∃ pre, True ∧ Jx pre W')) := by
  have hhl := hh.hlen
  have hcap := hh.capb
  have hle := hh.le
  unfold maxLen at hcap
  replace hh := hide hh
  refine callsIn_of_wp Tryd.func31 rfl trivial ?_ rfl
  simp only [Tryd.ntmps31, List.size_toArray, List.length_cons, List.length_nil, Nat.reduceAdd, Nat.reduceSub, Array.replicate_succ, Array.replicate_zero, List.push_toArray, List.append_toArray, List.nil_append, List.cons_append]
  gi_wp2
  gi_loopw [4, 12, 6, 7, 8] (fun v i _ _ _ wr => ∃ (nx k : Nat) (pre : List (Part w0)), k ≤ len ∧ v = .int .i64 nx ∧ i = .int .i64 k ∧ Hid (J pre wr) ∧ Hid (Below n₀ w0 wr) ∧ Hid (pre.map (·.p) ++ cutAll nx (ls.drop k) = cutAll number ls) ∧ nx = number + pre.length)
    (fun _ i _ _ _ _ => len - (intOf i).toNat)
  case atStart => exact ⟨number, 0, [], Nat.zero_le _, rfl, rfl, h0, hb0, (by simp : List.map (·.p) ([] : List (Part w0)) ++ cutAll number (ls.drop 0) = cutAll number ls), by simp⟩
  case round =>
    obtain ⟨nx, k, pre, hk, rfl, rfl, hJ, hB, hT, hnx⟩ := hrel
    by_cases hkl : k < len
    · obtain ⟨b, off, rfl, hbl, hcl⟩ := hh.out.cells (by omega)
      obtain ⟨ai, ni, ci, hc1, hHi⟩ := hcl k hkl
      have hc : wr.cell? ⟨b, off + k, none⟩ = some (.slice ai ni ci) := (hB.out.cell (p := ⟨b, off + k, none⟩) (by show b < n₀; omega)).trans hc1
      replace hHi := hide hHi
      clear hcl hc1
      gi_wp2
      gi_loopw [4, 7, 8] (fun v r f wr2 => ∃ (nx2 fl : Nat) (a2 : Option Addr) (n2 c2 : Nat) (x : List Int) (pre2 : List (Part w0)), v = .int .i64 nx2 ∧ f = .int .i64 fl ∧ r = .slice a2 n2 c2 ∧ fl ≤ 1 ∧ Hid (Has w0 a2 n2 c2 x) ∧ Hid (J pre2 wr2) ∧ Hid (Below n₀ w0 wr2) ∧ Hid (pre2.map (·.p) ++ (cutR nx2 fl x ++ cutAll (nx2 + (cutR nx2 fl x).length) (ls.drop (k + 1))) = cutAll number ls) ∧ nx2 = number + pre2.length)
        (fun _ r _ _ => match r with | .slice _ n _ => n | _ => 0)
      case atStart => exact ⟨nx, 1, ai, ni, ci, ls.getD k [], pre, rfl, rfl, rfl, by omega, hHi, hJ, hB, by have := hT.out; rw [ls_drop (by omega)] at this; exact this, hnx⟩
      case round =>
        obtain ⟨nx2, fl, a2, n2, c2, x, pre2, rfl, rfl, rfl, hfl, hx, hJ2, hB2', hT2, hnx2⟩ := hrel
        replace hnx2 := hide hnx2
        have hxl := hx.out.hlen
        have hlt : Hid (pre2.length + (cutR nx2 fl x).length ≤ (cutAll number ls).length) := by
          have := congrArg List.length hT2.out
          simp at this
          show _ ≤ _
          omega
        have hpos := cutR_pos nx2 fl x
        have hnb : Hid (nx2 < 4294967296) := by show _ < _; have := hlt.out; have := hnx2.out; omega
        have hxc := hx.out.capb
        unfold maxLen at hxc
        have hxle := hx.out.le
        by_cases hlong : 244 < n2
        · obtain ⟨b2, o2, rfl, _, _⟩ := hx.out.cells (by omega)
          have hpo : Says.Ok ⟨nx2, x.take 244, fl⟩ := ⟨hnb.out, by simp; omega, Byts.take hx.out.bytes 244, by show fl ≤ 3; omega, .inl (by simp; omega)⟩
          have i1 : 244 < (n2 : Int) := by omega
          have i2 : (244 : Int) ≤ c2 := by omega
          have i3 : c2 ≠ 244 := by omega
          have i4 : (n2 : Int) ≤ c2 := by omega
          have hyy : YieldAt Fence.wide (n - 1) Tryd.prog y #[.agg #[.int .i64 (nx2 : Int), .slice (some ⟨b2, o2, none⟩) 244 c2, .int .i64 (fl : Int)]] wr fun e W' =>
              (e = .returned (.bool true) ∧ J (pre2 ++ [⟨some ⟨b2, o2, none⟩, 244, c2, ⟨nx2, x.take 244, fl⟩, hpo, hx.out.front 244 (by omega)⟩]) W' ∧ Below n₀ wr W') ∨ (e = .returned (.bool false) ∧ Jx (pre2 ++ [⟨some ⟨b2, o2, none⟩, 244, c2, ⟨nx2, x.take 244, fl⟩, hpo, hx.out.front 244 (by omega)⟩]) W') :=
            hY pre2 ⟨some ⟨b2, o2, none⟩, 244, c2, ⟨nx2, x.take 244, fl⟩, hpo, hx.out.front 244 (by omega)⟩ wr hJ2.out (by have := hlt.out; omega)
          obtain ⟨fn, tmps, assign, body, hy', hR⟩ := hyy
          have hnb' := hnb.out
          gi_wp2
          refine hR.mono ?_
          rintro e W3 (⟨rfl, hJ3, hk3⟩ | ⟨rfl, hJx3⟩)
          · have hT3 : Hid ((pre2 ++ [(⟨some ⟨b2, o2, none⟩, 244, c2, ⟨nx2, x.take 244, fl⟩, hpo, hx.out.front 244 (by omega)⟩ : Part w0)]).map (·.p) ++ (cutR (nx2 + 1) 0 (x.drop 244) ++ cutAll (nx2 + 1 + (cutR (nx2 + 1) 0 (x.drop 244)).length) (ls.drop (k + 1))) = cutAll number ls) := by
              have := hT2.out
              rw [cutR_long (by omega)] at this
              show _ = _
              rw [← this]
              simp [Nat.add_assoc, Nat.add_comm 1]
            have hR1 := hide (hx.out.rest 244 (by omega))
            have hB3 : Hid (Below n₀ w0 W3) := hB2'.out.trans hk3
            gi_wp2
            exact ⟨⟨nx2 + 1, 0, _, n2 - 244, c2 - 244, x.drop 244, _, v64 (by omega), rfl, rfl, by omega, hR1, hJ3, hB3, hT3, by have := hnx2.out; simp; omega⟩, by simp; omega⟩
          · gi_wp2
            (try simp only [Exit.inBlock, Exit.then])
            refine bodyPost_ret (results_none rfl _ _ _) rfl ?_
            exact ⟨⟨_, rfl⟩, .inr ⟨_, trivial, hJx3⟩⟩
        · have hpo : Says.Ok ⟨nx2, x, fl + 2⟩ := ⟨hnb.out, by show x.length ≤ 244; omega, hx.out.bytes, by show fl + 2 ≤ 3; omega, .inr (by show 2 ≤ fl + 2; omega)⟩
          have i1 : (n2 : Int) ≤ 244 := by omega
          have ho := or2 hfl
          have hyy : YieldAt Fence.wide (n - 1) Tryd.prog y #[.agg #[.int .i64 (nx2 : Int), .slice a2 n2 c2, .int .i64 ((fl + 2 : Nat) : Int)]] wr fun e W' =>
              (e = .returned (.bool true) ∧ J (pre2 ++ [⟨a2, n2, c2, ⟨nx2, x, fl + 2⟩, hpo, hx.out⟩]) W' ∧ Below n₀ wr W') ∨ (e = .returned (.bool false) ∧ Jx (pre2 ++ [⟨a2, n2, c2, ⟨nx2, x, fl + 2⟩, hpo, hx.out⟩]) W') :=
            hY pre2 ⟨a2, n2, c2, ⟨nx2, x, fl + 2⟩, hpo, hx.out⟩ wr hJ2.out (by have := hlt.out; omega)
          obtain ⟨q, hq⟩ : ∃ q : Nat, fl + 2 = q := ⟨_, rfl⟩
          rw [hq] at ho
          simp only [hq] at hyy
          replace hq := hide hq
          obtain ⟨fn, tmps, assign, body, hy', hR⟩ := hyy
          have hnb' := hnb.out
          gi_wp2
          refine hR.mono ?_
          rintro e W3 (⟨rfl, hJ3, hk3⟩ | ⟨rfl, hJx3⟩)
          · have hB3 : Hid (Below n₀ w0 W3) := hB2'.out.trans hk3
            have hT3 : Hid ((pre2 ++ [(⟨a2, n2, c2, ⟨nx2, x, q⟩, hq.out ▸ hpo, hx.out⟩ : Part w0)]).map (·.p) ++ cutAll (nx2 + 1) (ls.drop (k + 1)) = cutAll number ls) := by
              have := hT2.out
              rw [cutR_short (by omega)] at this
              show _ = _
              have e := hq.out
              rw [← this]
              simp [e]
            gi_wp2
            exact ⟨⟨nx2 + 1, k + 1, _, by omega, v64 (by omega), v64 (by omega), hJ3, hB3, hT3, by have := hnx2.out; simp; omega⟩, by simp [intOf]; omega⟩
          · gi_wp2
            (try simp only [Exit.inBlock, Exit.then])
            refine bodyPost_ret (results_none rfl _ _ _) rfl ?_
            exact ⟨⟨_, rfl⟩, .inr ⟨_, trivial, hJx3⟩⟩
    · obtain rfl : k = len := by omega
      gi_wp2
      go_end0
      exact ⟨⟨_, rfl⟩, .inl ⟨pre, by have := hT.out; rw [List.drop_of_length_le (by omega)] at this; simpa [cutAll] using this, hJ.out⟩⟩
end Go.Proofs.YtbaclihlckfndaaDoor
