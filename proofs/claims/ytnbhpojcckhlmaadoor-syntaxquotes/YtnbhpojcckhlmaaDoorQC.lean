/-
  The reference's Quote.
-/
import Derived.Test.YtnbhpojcckhlmaaDoorQB
import Derived.Deep.RegionHeld3
import Derived.Laws.BytesArg
import Derived.Lib.LazyBuf
namespace Go.Proofs.YtnbhpojcckhlmaaDoor
open Go.RowKit Go.Shelf Go.Lib
set_option linter.unusedVariables false
set_option linter.unusedSimpArgs false

theorem at_toList {s : ByteArray} {k : Nat} (h : k < s.size) : s.data.toList[k]? = some (s[k]'h) := by
  rw [List.getElem?_eq_getElem (show k < s.data.toList.length by rw [Array.length_toList]; exact h)]
  rfl
def inS (s : ByteArray) (c : UInt8) : Bool := s.data.toList.contains c
theorem among_any (c : UInt8) (s : ByteArray) (hs : s.size ≤ 1000) (w : World) :
    Calls Tryd.prog 18 #[.int .u8 (c.toNat : Int), .string s] w fun e w' => e = .returned (.bool (inS s c)) ∧ w' = w := by
  have hsl : s.data.toList.length = s.size := by rw [Array.length_toList]; rfl
  go_enter Tryd.func18, Tryd.ntmps18
  go_wp2
  go_loop [5] (fun i => ∃ k : Nat, k ≤ s.size ∧ i = .int .i64 (k : Int) ∧ Hid (∀ j : Nat, j < k → s.data.toList[j]? ≠ some c)) (fun i => s.size - (RowKit.intOf i).toNat)
  case atStart => exact ⟨0, Nat.zero_le _, rfl, fun j hj => absurd hj (Nat.not_lt_zero j)⟩
  case round =>
    obtain ⟨k, hk, rfl, hN⟩ := hrel
    by_cases hlt : k < s.size
    · have i1 : (k : Int) < (s.size : Int) := by omega
      have hg := hide (at_toList hlt)
      by_cases he : (s[k]'hlt) = c
      · have h1 : ((s[k]'hlt).toNat : Int) = (c.toNat : Int) := by rw [he]
        have h2 : (s[k]'hlt).toNat = c.toNat := by rw [he]
        have hcon : inS s c = true := by
          unfold inS
          rw [List.contains_iff_mem, List.mem_iff_getElem?]
          exact ⟨k, by rw [hg.out, he]⟩
        replace hcon := hide hcon
        go_wp2
        go_ret
        exact ⟨by rw [hcon.out]; rfl, rfl⟩
      · have h2 : ¬ (s[k]'hlt).toNat = c.toNat := fun e => he (UInt8.toNat_inj.1 e)
        have h1 : ¬ ((s[k]'hlt).toNat : Int) = (c.toNat : Int) := by omega
        go_wp2
        go_round
        case rel => exact ⟨k + 1, by omega, by go_num, fun j hj => by
          by_cases hjk : j = k
          · subst hjk; rw [hg.out]; exact fun e => he (Option.some.inj e)
          · exact hN.out j (by omega)⟩
        case measure => simp [RowKit.intOf]; omega
    · have i1 : ¬ (k : Int) < (s.size : Int) := by omega
      have hcon : inS s c = false := by
        unfold inS
        cases h : s.data.toList.contains c
        · rfl
        · rw [List.contains_iff_mem, List.mem_iff_getElem?] at h
          obtain ⟨j, hj⟩ := h
          have hjl : j < s.data.toList.length := (List.getElem?_eq_some_iff.1 hj).1
          exact absurd hj (hN.out j (by omega))
      replace hcon := hide hcon
      go_wp2
      go_ret
      exact ⟨by rw [hcon.out]; rfl, rfl⟩
theorem slice_of_owns {W : World} {base : Nat} {e : TypeId} {size : Nat} {v : Value} {k : Nat} {xs : List Value} (h : W.ownsRow base e size v k xs) : ∃ a cap, v = .slice a k cap := by
  rcases h.2 with ⟨rfl, rfl⟩ | ⟨g, cap, cur, rfl, _⟩
  · exact ⟨_, _, rfl⟩
  · exact ⟨_, _, rfl⟩
/-- 'string(b)' of a row of one's own. -/
theorem run_own_string {w : World} {B : Nat} {a : Option Addr} {l : List UInt8} {n cap : Nat} (h : w.ownsRow B 5 1 (.slice a n cap) n (byteCells l)) :
    (convert 39 9 (.slice a n cap)).run Tryd.prog w = .ok (.string ⟨l.toArray⟩) w := by
  have hl : l.length = n := by have := h.1; rw [byteCells_length] at this; omega
  by_cases hp : 0 < n
  · obtain ⟨g, cap', cur, e1, h2⟩ : ∃ g cap' cur, (Value.slice a n cap) = .slice (some ⟨g, 0, none⟩) n cap' ∧ True := by
      rcases h.2 with ⟨_, h0⟩ | ⟨g, cap', cur, hv, _⟩
      · omega
      · exact ⟨g, cap', cur, hv, trivial⟩
    cases e1
    rw [← Lz.strOfNums_map]
    refine run_convert_bytes_arg w 39 5 Tryd.underlying39 Tryd.underlying5 g 0 n cap (l.map fun b => (b.toNat : Int)) (by simpa using hl) (fun i hi => ?_) 9 Tryd.underlying9
    have := h.cells (g := g) rfl i (.int .u8 ((l.getD i 0).toNat : Int)) (by simp [byteCells, List.getD, List.getElem?_eq_getElem (show i < l.length by omega)])
    rw [show (⟨g, 0, none⟩ : Addr).add i = ⟨g, i, none⟩ by unfold Addr.add; split <;> simp_all] at this
    rw [Nat.zero_add, this]
    simp [List.getD, List.getElem?_eq_getElem (show i < l.length by omega)]
  · obtain rfl : n = 0 := by omega
    obtain rfl : l = [] := List.eq_nil_of_length_eq_zero hl
    rw [run_convert_bytes_string w 39 9 5 _ 0 cap Tryd.underlying39 Tryd.underlying5 Tryd.underlying9]
    cases a <;> simp [Conv.bytesToString, loadCells]
    all_goals rfl
section
variable {w : World} {ops : Array Oper} {rest : List Oper} {o : Oper} {a : Act} {Q : Exit → Act → World → Prop} {K : Act → World → Prop} {E : Prop}
/-- append of new bytes, as one step of a region that draws. -/
theorem step_appU (hgd : o.guard = none) (s x : Operand) (ho : o.op = .call { callee := .builtin .append, args := #[s, x], argTypes := #[39, 39] })
    (base : Nat) (v : Value) (k : Nat) (l : List UInt8) (hs : a.eval s = v) (hown : w.ownsRow base 5 1 v k (byteCells l))
    (g m : Nat) (lx : List UInt8) (hx : a.eval x = .slice (some ⟨g, 0, none⟩) m m) (hm : lx.length = m) (hc : ∀ j u, (byteCells lx)[j]? = some u → w.cell? ⟨g, j, none⟩ = some u)
    (hb : k + m ≤ 100000) (hbase : base ≤ w.heap.size)
    (h : ∀ v' w', w'.ownsRow base 5 1 v' (k + m) (byteCells (l ++ lx)) → w.grownBy w' v.ownBlock → K (a.put o.dst v') w') :
    if Region.wanted o (yielded ops a.tmps) = true then Oper.wp Tryd.prog o a w K Q else E := by
  have hw : Region.wanted o (yielded ops a.tmps) = true := by simp [Region.wanted, hgd]
  rw [if_pos hw]
  obtain ⟨i0, hi, hz0, hz1, hz2⟩ := info_parts extraST.infoByte
  obtain ⟨v', w', hrun, r1, r2, r3⟩ := run_append_own (P := Tryd.prog) w base 39 o.type 5 i0 (.int .u8 0) 1 1 Tryd.underlying39 hi hz0 hz1 hz2 rfl (by decide) v k (byteCells l) hown ⟨g, 0, none⟩ m m (byteCells lx) (by rw [byteCells_length]; omega)
    (fun j u hj => by rw [show (⟨g, 0, none⟩ : Addr).add j = ⟨g, j, none⟩ by unfold Addr.add; split <;> simp_all]; exact hc j u hj) (fun u hu => by simp [byteCells] at hu; obtain ⟨b, _, rfl⟩ := hu; rfl) (by unfold maxLen; omega) (by omega) hbase
  unfold Oper.wp
  simp [execOp, ho, resolve, invoke, builtin, hs, hx, hrun, Result.andThen]
  exact h v' w' (by simpa [byteCells] using r1) r2
end
theorem idxD (n : Nat) (h : n < 16) (w : World) : (Instr.index 9 (.string (⟨#[48, 49, 50, 51, 52, 53, 54, 55, 56, 57, 97, 98, 99, 100, 101, 102]⟩ : ByteArray)) (.int .u8 (n : Int))).run Tryd.prog w = .ok (.int .u8 ((dg n).toNat : Int)) w := by
  rcases (show n = 0 ∨ n = 1 ∨ n = 2 ∨ n = 3 ∨ n = 4 ∨ n = 5 ∨ n = 6 ∨ n = 7 ∨ n = 8 ∨ n = 9 ∨ n = 10 ∨ n = 11 ∨ n = 12 ∨ n = 13 ∨ n = 14 ∨ n = 15 by omega) with rfl | rfl | rfl | rfl | rfl | rfl | rfl | rfl | rfl | rfl | rfl | rfl | rfl | rfl | rfl | rfl <;> kernel_rfl
theorem wl_appU {w : World} {ops : Array Oper} {rest : List Oper} {o : Oper} {a : Act} {Q : Exit → Act → World → Prop} (hgd : o.guard = none) (s x : Operand) (ho : o.op = .call { callee := .builtin .append, args := #[s, x], argTypes := #[39, 39] })
    (base : Nat) (v : Value) (k : Nat) (l : List UInt8) (hs : a.eval s = v) (hown : w.ownsRow base 5 1 v k (byteCells l))
    (g m : Nat) (lx : List UInt8) (hx : a.eval x = .slice (some ⟨g, 0, none⟩) m m) (hm : lx.length = m) (hc : ∀ j u, (byteCells lx)[j]? = some u → w.cell? ⟨g, j, none⟩ = some u)
    (hb : k + m ≤ 100000) (hbase : base ≤ w.heap.size)
    (h : ∀ v' w', w'.ownsRow base 5 1 v' (k + m) (byteCells (l ++ lx)) → w.grownBy w' v.ownBlock → wpList Tryd.prog ops Q rest (a.put o.dst v') w') : wpList Tryd.prog ops Q (o :: rest) a w := by
  obtain ⟨i0, hi, hz0, hz1, hz2⟩ := info_parts extraST.infoByte
  refine wpList_append_own (P := Tryd.prog) w hgd s x 39 ho base 5 i0 (.int .u8 0) 1 1 Tryd.underlying39 hi hz0 hz1 hz2 rfl (by decide) v k (byteCells l) hs hown ⟨g, 0, none⟩ m m (byteCells lx) hx (by rw [byteCells_length]; omega)
    (fun j u hj => by rw [show (⟨g, 0, none⟩ : Addr).add j = ⟨g, j, none⟩ by unfold Addr.add; split <;> simp_all]; exact hc j u hj) (fun u hu => by simp [byteCells] at hu; obtain ⟨b, _, rfl⟩ := hu; rfl) (by unfold maxLen; omega) (by omega) hbase (fun v' w' h2 h3 _ => h v' w' (by simpa [byteCells] using h2) h3)
theorem cells_new {W : World} {l : List UInt8} {A : Array Value} (hA : A.toList = byteCells l) (j : Nat) (u : Value) (h : (byteCells l)[j]? = some u) : (W.alloc (.cells A 5)).cell? ⟨W.heap.size, j, none⟩ = some u := by
  rw [Lib.cell_of_heap (heap_alloc_new W _), ← Array.getElem?_toList, hA]
  exact h
set_option maxRecDepth 100000 in
set_option maxHeartbeats 8000000 in
theorem rquote_any (s : ByteArray) (hs : s.size ≤ 256) (w : World) :
    Calls Tryd.prog 6 #[.string s] w fun e w' => e = .returned (.string ⟨(quo s.data.toList).toArray⟩) ∧ Below w.heap.size w w' := by
  have hsl : s.data.toList.length = s.size := by rw [Array.length_toList]; rfl
  obtain ⟨i0, hi, hz0, hz1, hz2⟩ := info_parts extraST.infoByte
  go_enter Tryd.func6, Tryd.ntmps6
  go_wp2
  go_loopw [3, 5] (fun v i wr => ∃ (k n : Nat) (ao : Option Addr) (co : Nat), k ≤ s.size ∧ n ≤ 1024 ∧ v = .slice ao n co ∧ i = .int .i64 (k : Int) ∧ Hid (wr.ownsRow w.heap.size 5 1 (.slice ao n co) n (byteCells (quo (s.data.toList.take k)))) ∧ Hid (Below w.heap.size w wr)) (fun _ i _ => s.size - (RowKit.intOf i).toNat)
  case atStart => exact ⟨0, 0, _, _, Nat.zero_le _, Nat.zero_le _, rfl, rfl, ⟨rfl, .inr ⟨w.heap.size, 0, #[], rfl, Nat.le_refl _, heap_alloc_new w _, Nat.le_refl _, Nat.zero_le _, rfl, rfl⟩⟩, (Below.refl _ w).alloc (Nat.le_refl _) _⟩
  case round =>
    obtain ⟨k, n, ao, co, hk, hn, rfl, rfl, hR, hB⟩ := hrel
    by_cases hlt : k < s.size
    · have i1 : (k : Int) < (s.size : Int) := by omega
      have htk : Hid (s.data.toList.take (k + 1) = s.data.toList.take k ++ [s[k]'hlt]) := by
        show _ = _
        rw [List.take_add_one, at_toList hlt]; rfl
      have hbs := hB.out.size
      have hq1 : n = (quo (s.data.toList.take k)).length := by have := hR.out.1; rw [byteCells_length] at this; omega
      have hql : Hid (n ≤ 4 * k) := by
        have := quo_len (s.data.toList.take k)
        rw [List.length_take] at this
        exact (by omega : n ≤ 4 * k)
      replace hq1 := hide hq1
      obtain ⟨c, hc⟩ : ∃ c, (s[k]'hlt) = c := ⟨_, rfl⟩
      replace htk : Hid (s.data.toList.take (k + 1) = s.data.toList.take k ++ [c]) := by rw [← hc]; exact htk
      have hcl := u8_lt c
      have hXP : Hid (inS plS c = plS.data.toList.contains c) := rfl
      have hrel2 : Hid (plB c = (isLet (c.toNat : Int) || isDig (c.toNat : Int) || inS plS c)) := rfl
      rcases (show (97 ≤ c.toNat ∧ c.toNat ≤ 122) ∨ (65 ≤ c.toNat ∧ c.toNat ≤ 90) ∨ (48 ≤ c.toNat ∧ c.toNat ≤ 57) ∨ (c.toNat < 48) ∨ (57 < c.toNat ∧ c.toNat < 65) ∨ (90 < c.toNat ∧ c.toNat < 97) ∨ (122 < c.toNat) by omega) with hr | hr | hr | hr | hr | hr | hr
      · have a0 : decide ((97 : Int) ≤ (c.toNat : Int)) = true := by simp; omega
        have b0 : decide (97 ≤ c.toNat) = true := by simp; omega
        have a1 : decide ((c.toNat : Int) ≤ (122 : Int)) = true := by simp; omega
        have b1 : decide (c.toNat ≤ 122) = true := by simp; omega
        have a2 : decide ((65 : Int) ≤ (c.toNat : Int)) = true := by simp; omega
        have b2 : decide (65 ≤ c.toNat) = true := by simp; omega
        have a3 : decide ((c.toNat : Int) ≤ (90 : Int)) = false := by simp; omega
        have b3 : decide (c.toNat ≤ 90) = false := by simp; omega
        have a4 : decide ((48 : Int) ≤ (c.toNat : Int)) = true := by simp; omega
        have b4 : decide (48 ≤ c.toNat) = true := by simp; omega
        have a5 : decide ((c.toNat : Int) ≤ (57 : Int)) = false := by simp; omega
        have b5 : decide (c.toNat ≤ 57) = false := by simp; omega
        have hp : plB c = true := by rw [hrel2.out]; unfold isLet isDig; simp only [a0, a1, a2, a3, a4, a5]; simp
        go_wp2_with (at_builtin; refine wl_appU rfl _ _ rfl w.heap.size _ n (quo (s.data.toList.take k)) rfl (hR.out.alloc _) wr.heap.size 1 [c] rfl rfl (cells_new rfl) (by omega) (by simp; omega) ?_; intro v' W2 O2 G2)
        obtain ⟨a3, c3, e3⟩ := slice_of_owns O2
        subst e3
        have F2 : Hid (Below w.heap.size w W2) := (hB.out.alloc hbs _).grown G2 (by simp; omega) (fun q e => (hR.out.lt q e).1)
        have O3 : Hid (W2.ownsRow w.heap.size 5 1 (.slice a3 (n + 1) c3) (n + 1) (byteCells (quo (s.data.toList.take (k + 1))))) := by
          rw [htk.out, quo_snoc, show qc c = [c] by simp [qc, hp]]
          exact O2
        clear O2 G2
        go_wp2
        go_roundw
        case rel => exact ⟨k + 1, n + 1, a3, c3, by omega, by have := hql.out; omega, rfl, by go_num, O3, F2⟩
        case measure => simp [RowKit.intOf]; omega
      · have a0 : decide ((97 : Int) ≤ (c.toNat : Int)) = false := by simp; omega
        have b0 : decide (97 ≤ c.toNat) = false := by simp; omega
        have a1 : decide ((c.toNat : Int) ≤ (122 : Int)) = true := by simp; omega
        have b1 : decide (c.toNat ≤ 122) = true := by simp; omega
        have a2 : decide ((65 : Int) ≤ (c.toNat : Int)) = true := by simp; omega
        have b2 : decide (65 ≤ c.toNat) = true := by simp; omega
        have a3 : decide ((c.toNat : Int) ≤ (90 : Int)) = true := by simp; omega
        have b3 : decide (c.toNat ≤ 90) = true := by simp; omega
        have a4 : decide ((48 : Int) ≤ (c.toNat : Int)) = true := by simp; omega
        have b4 : decide (48 ≤ c.toNat) = true := by simp; omega
        have a5 : decide ((c.toNat : Int) ≤ (57 : Int)) = false := by simp; omega
        have b5 : decide (c.toNat ≤ 57) = false := by simp; omega
        have hp : plB c = true := by rw [hrel2.out]; unfold isLet isDig; simp only [a0, a1, a2, a3, a4, a5]; simp
        go_wp2_with (at_builtin; refine wl_appU rfl _ _ rfl w.heap.size _ n (quo (s.data.toList.take k)) rfl (hR.out.alloc _) wr.heap.size 1 [c] rfl rfl (cells_new rfl) (by omega) (by simp; omega) ?_; intro v' W2 O2 G2)
        obtain ⟨a3, c3, e3⟩ := slice_of_owns O2
        subst e3
        have F2 : Hid (Below w.heap.size w W2) := (hB.out.alloc hbs _).grown G2 (by simp; omega) (fun q e => (hR.out.lt q e).1)
        have O3 : Hid (W2.ownsRow w.heap.size 5 1 (.slice a3 (n + 1) c3) (n + 1) (byteCells (quo (s.data.toList.take (k + 1))))) := by
          rw [htk.out, quo_snoc, show qc c = [c] by simp [qc, hp]]
          exact O2
        clear O2 G2
        go_wp2
        go_roundw
        case rel => exact ⟨k + 1, n + 1, a3, c3, by omega, by have := hql.out; omega, rfl, by go_num, O3, F2⟩
        case measure => simp [RowKit.intOf]; omega
      · have a0 : decide ((97 : Int) ≤ (c.toNat : Int)) = false := by simp; omega
        have b0 : decide (97 ≤ c.toNat) = false := by simp; omega
        have a1 : decide ((c.toNat : Int) ≤ (122 : Int)) = true := by simp; omega
        have b1 : decide (c.toNat ≤ 122) = true := by simp; omega
        have a2 : decide ((65 : Int) ≤ (c.toNat : Int)) = false := by simp; omega
        have b2 : decide (65 ≤ c.toNat) = false := by simp; omega
        have a3 : decide ((c.toNat : Int) ≤ (90 : Int)) = true := by simp; omega
        have b3 : decide (c.toNat ≤ 90) = true := by simp; omega
        have a4 : decide ((48 : Int) ≤ (c.toNat : Int)) = true := by simp; omega
        have b4 : decide (48 ≤ c.toNat) = true := by simp; omega
        have a5 : decide ((c.toNat : Int) ≤ (57 : Int)) = true := by simp; omega
        have b5 : decide (c.toNat ≤ 57) = true := by simp; omega
        have hp : plB c = true := by rw [hrel2.out]; unfold isLet isDig; simp only [a0, a1, a2, a3, a4, a5]; simp
        go_wp2_with (at_builtin; refine wl_appU rfl _ _ rfl w.heap.size _ n (quo (s.data.toList.take k)) rfl (hR.out.alloc _) wr.heap.size 1 [c] rfl rfl (cells_new rfl) (by omega) (by simp; omega) ?_; intro v' W2 O2 G2)
        obtain ⟨a3, c3, e3⟩ := slice_of_owns O2
        subst e3
        have F2 : Hid (Below w.heap.size w W2) := (hB.out.alloc hbs _).grown G2 (by simp; omega) (fun q e => (hR.out.lt q e).1)
        have O3 : Hid (W2.ownsRow w.heap.size 5 1 (.slice a3 (n + 1) c3) (n + 1) (byteCells (quo (s.data.toList.take (k + 1))))) := by
          rw [htk.out, quo_snoc, show qc c = [c] by simp [qc, hp]]
          exact O2
        clear O2 G2
        go_wp2
        go_roundw
        case rel => exact ⟨k + 1, n + 1, a3, c3, by omega, by have := hql.out; omega, rfl, by go_num, O3, F2⟩
        case measure => simp [RowKit.intOf]; omega
      · have a0 : decide ((97 : Int) ≤ (c.toNat : Int)) = false := by simp; omega
        have b0 : decide (97 ≤ c.toNat) = false := by simp; omega
        have a1 : decide ((c.toNat : Int) ≤ (122 : Int)) = true := by simp; omega
        have b1 : decide (c.toNat ≤ 122) = true := by simp; omega
        have a2 : decide ((65 : Int) ≤ (c.toNat : Int)) = false := by simp; omega
        have b2 : decide (65 ≤ c.toNat) = false := by simp; omega
        have a3 : decide ((c.toNat : Int) ≤ (90 : Int)) = true := by simp; omega
        have b3 : decide (c.toNat ≤ 90) = true := by simp; omega
        have a4 : decide ((48 : Int) ≤ (c.toNat : Int)) = false := by simp; omega
        have b4 : decide (48 ≤ c.toNat) = false := by simp; omega
        have a5 : decide ((c.toNat : Int) ≤ (57 : Int)) = true := by simp; omega
        have b5 : decide (c.toNat ≤ 57) = true := by simp; omega
        cases hX : inS plS c with
        | true =>
          have hp : plB c = true := by rw [hrel2.out, hX]; simp
          go_wp2_with fail
          refine (among_any c plS (by decide) _).mono ?_
          rintro e w1 ⟨rfl, rfl⟩
          rw [hX]
          go_wp2_with (at_builtin; refine wl_appU rfl _ _ rfl w.heap.size _ n (quo (s.data.toList.take k)) rfl (hR.out.alloc _) w1.heap.size 1 [c] rfl rfl (cells_new rfl) (by omega) (by simp; omega) ?_; intro v' W2 O2 G2)
          obtain ⟨a3, c3, e3⟩ := slice_of_owns O2
          subst e3
          have F2 : Hid (Below w.heap.size w W2) := (hB.out.alloc hbs _).grown G2 (by simp; omega) (fun q e => (hR.out.lt q e).1)
          have O3 : Hid (W2.ownsRow w.heap.size 5 1 (.slice a3 (n + 1) c3) (n + 1) (byteCells (quo (s.data.toList.take (k + 1))))) := by
            rw [htk.out, quo_snoc, show qc c = [c] by simp [qc, hp]]
            exact O2
          clear O2 G2
          go_wp2
          go_roundw
          case rel => exact ⟨k + 1, n + 1, a3, c3, by omega, by have := hql.out; omega, rfl, by go_num, O3, F2⟩
          case measure => simp [RowKit.intOf]; omega
        | false =>
          have hp : ¬ plB c = true := by rw [hrel2.out, hX]; unfold isLet isDig; simp only [a0, a1, a2, a3, a4, a5]; simp
          go_wp2_with fail
          refine (among_any c plS (by decide) _).mono ?_
          rintro e w1 ⟨rfl, rfl⟩
          rw [hX]
          go_wp2_with fail
          have hqc : Hid (qc c = [92, 120, dg (c.toNat / 16), dg (c.toNat % 16)]) := by
            show _ = _
            simp [qc, hp]
          have hw1 : IntKind.u8.wrap ((c.toNat : Int) / 16) = ((c.toNat / 16 : Nat) : Int) := by rw [IntKind.wrap_u8]; omega
          have hw2 : IntKind.u8.wrap ((c.toNat : Int) % 16) = ((c.toNat % 16 : Nat) : Int) := by rw [IntKind.wrap_u8]; omega
          obtain ⟨n1, hn1⟩ : ∃ n1, c.toNat / 16 = n1 := ⟨_, rfl⟩
          obtain ⟨n2, hn2⟩ : ∃ n2, c.toNat % 16 = n2 := ⟨_, rfl⟩
          rw [hn1] at hw1 hqc
          rw [hn2] at hw2 hqc
          have x1 : n1 < 16 := by omega
          have x2 : n2 < 16 := by omega
          have x3 : (n1 : Int) < 16 := by omega
          have x4 : (n2 : Int) < 16 := by omega
          have hd1 : ∀ h, ((⟨#[48, 49, 50, 51, 52, 53, 54, 55, 56, 57, 97, 98, 99, 100, 101, 102]⟩ : ByteArray)[n1]'h) = dg n1 := fun h => dig_at (by omega) h
          have hd2 : ∀ h, ((⟨#[48, 49, 50, 51, 52, 53, 54, 55, 56, 57, 97, 98, 99, 100, 101, 102]⟩ : ByteArray)[n2]'h) = dg n2 := fun h => dig_at (by omega) h
          have hw4 : (c.toNat : Int) % 16 = (n2 : Int) := by omega
          have hw5 : Int.tmod (c.toNat : Int) 16 = (n2 : Int) := by rw [Int.tmod_eq_emod_of_nonneg (by omega)]; omega
          have hw6 : IntKind.u8.wrap (n2 : Int) = (n2 : Int) := by rw [IntKind.wrap_u8]; omega
          replace hn1 := hide hn1
          replace hn2 := hide hn2
          generalize dg n1 = d1 at *
          generalize dg n2 = d2 at *
          have hRd : Hid (w1.drew.ownsRow w.heap.size 5 1 (.slice ao n co) n (byteCells (quo (s.data.toList.take k)))) := hR.out
          have hbd2 : Hid (w.heap.size ≤ w1.drew.heap.size) := hbs
          go_region_held3 (fun _ => True) (first | trivial) (first
            | (refine step_appU rfl (.tmp 47) (.tmp 56) rfl w.heap.size _ n (quo (s.data.toList.take k)) rfl (hRd.out.alloc _) w1.drew.heap.size 4 [92, 120, d1, d2] rfl rfl (cells_new rfl) (by omega) (by have := hbd2.out; simp; omega) ?_; intro v' W2 O2 G2; have F2 := ((hB.out.drew).alloc hbd2.out (Obj.cells #[.int .u8 92, .int .u8 120, .int .u8 (d1.toNat : Int), .int .u8 (d2.toNat : Int)] 5)).grown G2 (by have := hbd2.out; simp; omega) (fun q e => (hRd.out.lt q e).1); obtain ⟨a3, c3, e3⟩ := slice_of_owns O2; subst e3))
          all_goals exact (by
            replace F2 := hide F2
            have O3 : Hid (W2.ownsRow w.heap.size 5 1 (.slice a3 (n + 4) c3) (n + 4) (byteCells (quo (s.data.toList.take (k + 1))))) := by
              rw [htk.out, quo_snoc, hqc.out]
              exact O2
            clear O2 G2
            go_wp2_with fail
            go_roundw
            case rel => exact ⟨k + 1, n + 4, a3, c3, by omega, by have := hql.out; omega, rfl, by go_num, O3, F2⟩
            case measure => simp [RowKit.intOf]; omega)
      · have a0 : decide ((97 : Int) ≤ (c.toNat : Int)) = false := by simp; omega
        have b0 : decide (97 ≤ c.toNat) = false := by simp; omega
        have a1 : decide ((c.toNat : Int) ≤ (122 : Int)) = true := by simp; omega
        have b1 : decide (c.toNat ≤ 122) = true := by simp; omega
        have a2 : decide ((65 : Int) ≤ (c.toNat : Int)) = false := by simp; omega
        have b2 : decide (65 ≤ c.toNat) = false := by simp; omega
        have a3 : decide ((c.toNat : Int) ≤ (90 : Int)) = true := by simp; omega
        have b3 : decide (c.toNat ≤ 90) = true := by simp; omega
        have a4 : decide ((48 : Int) ≤ (c.toNat : Int)) = true := by simp; omega
        have b4 : decide (48 ≤ c.toNat) = true := by simp; omega
        have a5 : decide ((c.toNat : Int) ≤ (57 : Int)) = false := by simp; omega
        have b5 : decide (c.toNat ≤ 57) = false := by simp; omega
        cases hX : inS plS c with
        | true =>
          have hp : plB c = true := by rw [hrel2.out, hX]; simp
          go_wp2_with fail
          refine (among_any c plS (by decide) _).mono ?_
          rintro e w1 ⟨rfl, rfl⟩
          rw [hX]
          go_wp2_with (at_builtin; refine wl_appU rfl _ _ rfl w.heap.size _ n (quo (s.data.toList.take k)) rfl (hR.out.alloc _) w1.heap.size 1 [c] rfl rfl (cells_new rfl) (by omega) (by simp; omega) ?_; intro v' W2 O2 G2)
          obtain ⟨a3, c3, e3⟩ := slice_of_owns O2
          subst e3
          have F2 : Hid (Below w.heap.size w W2) := (hB.out.alloc hbs _).grown G2 (by simp; omega) (fun q e => (hR.out.lt q e).1)
          have O3 : Hid (W2.ownsRow w.heap.size 5 1 (.slice a3 (n + 1) c3) (n + 1) (byteCells (quo (s.data.toList.take (k + 1))))) := by
            rw [htk.out, quo_snoc, show qc c = [c] by simp [qc, hp]]
            exact O2
          clear O2 G2
          go_wp2
          go_roundw
          case rel => exact ⟨k + 1, n + 1, a3, c3, by omega, by have := hql.out; omega, rfl, by go_num, O3, F2⟩
          case measure => simp [RowKit.intOf]; omega
        | false =>
          have hp : ¬ plB c = true := by rw [hrel2.out, hX]; unfold isLet isDig; simp only [a0, a1, a2, a3, a4, a5]; simp
          go_wp2_with fail
          refine (among_any c plS (by decide) _).mono ?_
          rintro e w1 ⟨rfl, rfl⟩
          rw [hX]
          go_wp2_with fail
          have hqc : Hid (qc c = [92, 120, dg (c.toNat / 16), dg (c.toNat % 16)]) := by
            show _ = _
            simp [qc, hp]
          have hw1 : IntKind.u8.wrap ((c.toNat : Int) / 16) = ((c.toNat / 16 : Nat) : Int) := by rw [IntKind.wrap_u8]; omega
          have hw2 : IntKind.u8.wrap ((c.toNat : Int) % 16) = ((c.toNat % 16 : Nat) : Int) := by rw [IntKind.wrap_u8]; omega
          obtain ⟨n1, hn1⟩ : ∃ n1, c.toNat / 16 = n1 := ⟨_, rfl⟩
          obtain ⟨n2, hn2⟩ : ∃ n2, c.toNat % 16 = n2 := ⟨_, rfl⟩
          rw [hn1] at hw1 hqc
          rw [hn2] at hw2 hqc
          have x1 : n1 < 16 := by omega
          have x2 : n2 < 16 := by omega
          have x3 : (n1 : Int) < 16 := by omega
          have x4 : (n2 : Int) < 16 := by omega
          have hd1 : ∀ h, ((⟨#[48, 49, 50, 51, 52, 53, 54, 55, 56, 57, 97, 98, 99, 100, 101, 102]⟩ : ByteArray)[n1]'h) = dg n1 := fun h => dig_at (by omega) h
          have hd2 : ∀ h, ((⟨#[48, 49, 50, 51, 52, 53, 54, 55, 56, 57, 97, 98, 99, 100, 101, 102]⟩ : ByteArray)[n2]'h) = dg n2 := fun h => dig_at (by omega) h
          have hw4 : (c.toNat : Int) % 16 = (n2 : Int) := by omega
          have hw5 : Int.tmod (c.toNat : Int) 16 = (n2 : Int) := by rw [Int.tmod_eq_emod_of_nonneg (by omega)]; omega
          have hw6 : IntKind.u8.wrap (n2 : Int) = (n2 : Int) := by rw [IntKind.wrap_u8]; omega
          replace hn1 := hide hn1
          replace hn2 := hide hn2
          generalize dg n1 = d1 at *
          generalize dg n2 = d2 at *
          have hRd : Hid (w1.drew.ownsRow w.heap.size 5 1 (.slice ao n co) n (byteCells (quo (s.data.toList.take k)))) := hR.out
          have hbd2 : Hid (w.heap.size ≤ w1.drew.heap.size) := hbs
          go_region_held3 (fun _ => True) (first | trivial) (first
            | (refine step_appU rfl (.tmp 47) (.tmp 56) rfl w.heap.size _ n (quo (s.data.toList.take k)) rfl (hRd.out.alloc _) w1.drew.heap.size 4 [92, 120, d1, d2] rfl rfl (cells_new rfl) (by omega) (by have := hbd2.out; simp; omega) ?_; intro v' W2 O2 G2; have F2 := ((hB.out.drew).alloc hbd2.out (Obj.cells #[.int .u8 92, .int .u8 120, .int .u8 (d1.toNat : Int), .int .u8 (d2.toNat : Int)] 5)).grown G2 (by have := hbd2.out; simp; omega) (fun q e => (hRd.out.lt q e).1); obtain ⟨a3, c3, e3⟩ := slice_of_owns O2; subst e3))
          all_goals exact (by
            replace F2 := hide F2
            have O3 : Hid (W2.ownsRow w.heap.size 5 1 (.slice a3 (n + 4) c3) (n + 4) (byteCells (quo (s.data.toList.take (k + 1))))) := by
              rw [htk.out, quo_snoc, hqc.out]
              exact O2
            clear O2 G2
            go_wp2_with fail
            go_roundw
            case rel => exact ⟨k + 1, n + 4, a3, c3, by omega, by have := hql.out; omega, rfl, by go_num, O3, F2⟩
            case measure => simp [RowKit.intOf]; omega)
      · have a0 : decide ((97 : Int) ≤ (c.toNat : Int)) = false := by simp; omega
        have b0 : decide (97 ≤ c.toNat) = false := by simp; omega
        have a1 : decide ((c.toNat : Int) ≤ (122 : Int)) = true := by simp; omega
        have b1 : decide (c.toNat ≤ 122) = true := by simp; omega
        have a2 : decide ((65 : Int) ≤ (c.toNat : Int)) = true := by simp; omega
        have b2 : decide (65 ≤ c.toNat) = true := by simp; omega
        have a3 : decide ((c.toNat : Int) ≤ (90 : Int)) = false := by simp; omega
        have b3 : decide (c.toNat ≤ 90) = false := by simp; omega
        have a4 : decide ((48 : Int) ≤ (c.toNat : Int)) = true := by simp; omega
        have b4 : decide (48 ≤ c.toNat) = true := by simp; omega
        have a5 : decide ((c.toNat : Int) ≤ (57 : Int)) = false := by simp; omega
        have b5 : decide (c.toNat ≤ 57) = false := by simp; omega
        cases hX : inS plS c with
        | true =>
          have hp : plB c = true := by rw [hrel2.out, hX]; simp
          go_wp2_with fail
          refine (among_any c plS (by decide) _).mono ?_
          rintro e w1 ⟨rfl, rfl⟩
          rw [hX]
          go_wp2_with (at_builtin; refine wl_appU rfl _ _ rfl w.heap.size _ n (quo (s.data.toList.take k)) rfl (hR.out.alloc _) w1.heap.size 1 [c] rfl rfl (cells_new rfl) (by omega) (by simp; omega) ?_; intro v' W2 O2 G2)
          obtain ⟨a3, c3, e3⟩ := slice_of_owns O2
          subst e3
          have F2 : Hid (Below w.heap.size w W2) := (hB.out.alloc hbs _).grown G2 (by simp; omega) (fun q e => (hR.out.lt q e).1)
          have O3 : Hid (W2.ownsRow w.heap.size 5 1 (.slice a3 (n + 1) c3) (n + 1) (byteCells (quo (s.data.toList.take (k + 1))))) := by
            rw [htk.out, quo_snoc, show qc c = [c] by simp [qc, hp]]
            exact O2
          clear O2 G2
          go_wp2
          go_roundw
          case rel => exact ⟨k + 1, n + 1, a3, c3, by omega, by have := hql.out; omega, rfl, by go_num, O3, F2⟩
          case measure => simp [RowKit.intOf]; omega
        | false =>
          have hp : ¬ plB c = true := by rw [hrel2.out, hX]; unfold isLet isDig; simp only [a0, a1, a2, a3, a4, a5]; simp
          go_wp2_with fail
          refine (among_any c plS (by decide) _).mono ?_
          rintro e w1 ⟨rfl, rfl⟩
          rw [hX]
          go_wp2_with fail
          have hqc : Hid (qc c = [92, 120, dg (c.toNat / 16), dg (c.toNat % 16)]) := by
            show _ = _
            simp [qc, hp]
          have hw1 : IntKind.u8.wrap ((c.toNat : Int) / 16) = ((c.toNat / 16 : Nat) : Int) := by rw [IntKind.wrap_u8]; omega
          have hw2 : IntKind.u8.wrap ((c.toNat : Int) % 16) = ((c.toNat % 16 : Nat) : Int) := by rw [IntKind.wrap_u8]; omega
          obtain ⟨n1, hn1⟩ : ∃ n1, c.toNat / 16 = n1 := ⟨_, rfl⟩
          obtain ⟨n2, hn2⟩ : ∃ n2, c.toNat % 16 = n2 := ⟨_, rfl⟩
          rw [hn1] at hw1 hqc
          rw [hn2] at hw2 hqc
          have x1 : n1 < 16 := by omega
          have x2 : n2 < 16 := by omega
          have x3 : (n1 : Int) < 16 := by omega
          have x4 : (n2 : Int) < 16 := by omega
          have hd1 : ∀ h, ((⟨#[48, 49, 50, 51, 52, 53, 54, 55, 56, 57, 97, 98, 99, 100, 101, 102]⟩ : ByteArray)[n1]'h) = dg n1 := fun h => dig_at (by omega) h
          have hd2 : ∀ h, ((⟨#[48, 49, 50, 51, 52, 53, 54, 55, 56, 57, 97, 98, 99, 100, 101, 102]⟩ : ByteArray)[n2]'h) = dg n2 := fun h => dig_at (by omega) h
          have hw4 : (c.toNat : Int) % 16 = (n2 : Int) := by omega
          have hw5 : Int.tmod (c.toNat : Int) 16 = (n2 : Int) := by rw [Int.tmod_eq_emod_of_nonneg (by omega)]; omega
          have hw6 : IntKind.u8.wrap (n2 : Int) = (n2 : Int) := by rw [IntKind.wrap_u8]; omega
          replace hn1 := hide hn1
          replace hn2 := hide hn2
          generalize dg n1 = d1 at *
          generalize dg n2 = d2 at *
          have hRd : Hid (w1.drew.ownsRow w.heap.size 5 1 (.slice ao n co) n (byteCells (quo (s.data.toList.take k)))) := hR.out
          have hbd2 : Hid (w.heap.size ≤ w1.drew.heap.size) := hbs
          go_region_held3 (fun _ => True) (first | trivial) (first
            | (refine step_appU rfl (.tmp 47) (.tmp 56) rfl w.heap.size _ n (quo (s.data.toList.take k)) rfl (hRd.out.alloc _) w1.drew.heap.size 4 [92, 120, d1, d2] rfl rfl (cells_new rfl) (by omega) (by have := hbd2.out; simp; omega) ?_; intro v' W2 O2 G2; have F2 := ((hB.out.drew).alloc hbd2.out (Obj.cells #[.int .u8 92, .int .u8 120, .int .u8 (d1.toNat : Int), .int .u8 (d2.toNat : Int)] 5)).grown G2 (by have := hbd2.out; simp; omega) (fun q e => (hRd.out.lt q e).1); obtain ⟨a3, c3, e3⟩ := slice_of_owns O2; subst e3))
          all_goals exact (by
            replace F2 := hide F2
            have O3 : Hid (W2.ownsRow w.heap.size 5 1 (.slice a3 (n + 4) c3) (n + 4) (byteCells (quo (s.data.toList.take (k + 1))))) := by
              rw [htk.out, quo_snoc, hqc.out]
              exact O2
            clear O2 G2
            go_wp2_with fail
            go_roundw
            case rel => exact ⟨k + 1, n + 4, a3, c3, by omega, by have := hql.out; omega, rfl, by go_num, O3, F2⟩
            case measure => simp [RowKit.intOf]; omega)
      · have a0 : decide ((97 : Int) ≤ (c.toNat : Int)) = true := by simp; omega
        have b0 : decide (97 ≤ c.toNat) = true := by simp; omega
        have a1 : decide ((c.toNat : Int) ≤ (122 : Int)) = false := by simp; omega
        have b1 : decide (c.toNat ≤ 122) = false := by simp; omega
        have a2 : decide ((65 : Int) ≤ (c.toNat : Int)) = true := by simp; omega
        have b2 : decide (65 ≤ c.toNat) = true := by simp; omega
        have a3 : decide ((c.toNat : Int) ≤ (90 : Int)) = false := by simp; omega
        have b3 : decide (c.toNat ≤ 90) = false := by simp; omega
        have a4 : decide ((48 : Int) ≤ (c.toNat : Int)) = true := by simp; omega
        have b4 : decide (48 ≤ c.toNat) = true := by simp; omega
        have a5 : decide ((c.toNat : Int) ≤ (57 : Int)) = false := by simp; omega
        have b5 : decide (c.toNat ≤ 57) = false := by simp; omega
        cases hX : inS plS c with
        | true =>
          have hp : plB c = true := by rw [hrel2.out, hX]; simp
          go_wp2_with fail
          refine (among_any c plS (by decide) _).mono ?_
          rintro e w1 ⟨rfl, rfl⟩
          rw [hX]
          go_wp2_with (at_builtin; refine wl_appU rfl _ _ rfl w.heap.size _ n (quo (s.data.toList.take k)) rfl (hR.out.alloc _) w1.heap.size 1 [c] rfl rfl (cells_new rfl) (by omega) (by simp; omega) ?_; intro v' W2 O2 G2)
          obtain ⟨a3, c3, e3⟩ := slice_of_owns O2
          subst e3
          have F2 : Hid (Below w.heap.size w W2) := (hB.out.alloc hbs _).grown G2 (by simp; omega) (fun q e => (hR.out.lt q e).1)
          have O3 : Hid (W2.ownsRow w.heap.size 5 1 (.slice a3 (n + 1) c3) (n + 1) (byteCells (quo (s.data.toList.take (k + 1))))) := by
            rw [htk.out, quo_snoc, show qc c = [c] by simp [qc, hp]]
            exact O2
          clear O2 G2
          go_wp2
          go_roundw
          case rel => exact ⟨k + 1, n + 1, a3, c3, by omega, by have := hql.out; omega, rfl, by go_num, O3, F2⟩
          case measure => simp [RowKit.intOf]; omega
        | false =>
          have hp : ¬ plB c = true := by rw [hrel2.out, hX]; unfold isLet isDig; simp only [a0, a1, a2, a3, a4, a5]; simp
          go_wp2_with fail
          refine (among_any c plS (by decide) _).mono ?_
          rintro e w1 ⟨rfl, rfl⟩
          rw [hX]
          go_wp2_with fail
          have hqc : Hid (qc c = [92, 120, dg (c.toNat / 16), dg (c.toNat % 16)]) := by
            show _ = _
            simp [qc, hp]
          have hw1 : IntKind.u8.wrap ((c.toNat : Int) / 16) = ((c.toNat / 16 : Nat) : Int) := by rw [IntKind.wrap_u8]; omega
          have hw2 : IntKind.u8.wrap ((c.toNat : Int) % 16) = ((c.toNat % 16 : Nat) : Int) := by rw [IntKind.wrap_u8]; omega
          obtain ⟨n1, hn1⟩ : ∃ n1, c.toNat / 16 = n1 := ⟨_, rfl⟩
          obtain ⟨n2, hn2⟩ : ∃ n2, c.toNat % 16 = n2 := ⟨_, rfl⟩
          rw [hn1] at hw1 hqc
          rw [hn2] at hw2 hqc
          have x1 : n1 < 16 := by omega
          have x2 : n2 < 16 := by omega
          have x3 : (n1 : Int) < 16 := by omega
          have x4 : (n2 : Int) < 16 := by omega
          have hd1 : ∀ h, ((⟨#[48, 49, 50, 51, 52, 53, 54, 55, 56, 57, 97, 98, 99, 100, 101, 102]⟩ : ByteArray)[n1]'h) = dg n1 := fun h => dig_at (by omega) h
          have hd2 : ∀ h, ((⟨#[48, 49, 50, 51, 52, 53, 54, 55, 56, 57, 97, 98, 99, 100, 101, 102]⟩ : ByteArray)[n2]'h) = dg n2 := fun h => dig_at (by omega) h
          have hw4 : (c.toNat : Int) % 16 = (n2 : Int) := by omega
          have hw5 : Int.tmod (c.toNat : Int) 16 = (n2 : Int) := by rw [Int.tmod_eq_emod_of_nonneg (by omega)]; omega
          have hw6 : IntKind.u8.wrap (n2 : Int) = (n2 : Int) := by rw [IntKind.wrap_u8]; omega
          replace hn1 := hide hn1
          replace hn2 := hide hn2
          generalize dg n1 = d1 at *
          generalize dg n2 = d2 at *
          have hRd : Hid (w1.drew.ownsRow w.heap.size 5 1 (.slice ao n co) n (byteCells (quo (s.data.toList.take k)))) := hR.out
          have hbd2 : Hid (w.heap.size ≤ w1.drew.heap.size) := hbs
          go_region_held3 (fun _ => True) (first | trivial) (first
            | (refine step_appU rfl (.tmp 47) (.tmp 56) rfl w.heap.size _ n (quo (s.data.toList.take k)) rfl (hRd.out.alloc _) w1.drew.heap.size 4 [92, 120, d1, d2] rfl rfl (cells_new rfl) (by omega) (by have := hbd2.out; simp; omega) ?_; intro v' W2 O2 G2; have F2 := ((hB.out.drew).alloc hbd2.out (Obj.cells #[.int .u8 92, .int .u8 120, .int .u8 (d1.toNat : Int), .int .u8 (d2.toNat : Int)] 5)).grown G2 (by have := hbd2.out; simp; omega) (fun q e => (hRd.out.lt q e).1); obtain ⟨a3, c3, e3⟩ := slice_of_owns O2; subst e3))
          all_goals exact (by
            replace F2 := hide F2
            have O3 : Hid (W2.ownsRow w.heap.size 5 1 (.slice a3 (n + 4) c3) (n + 4) (byteCells (quo (s.data.toList.take (k + 1))))) := by
              rw [htk.out, quo_snoc, hqc.out]
              exact O2
            clear O2 G2
            go_wp2_with fail
            go_roundw
            case rel => exact ⟨k + 1, n + 4, a3, c3, by omega, by have := hql.out; omega, rfl, by go_num, O3, F2⟩
            case measure => simp [RowKit.intOf]; omega)
    · have i1 : ¬ (k : Int) < (s.size : Int) := by omega
      have hkk : Hid (s.data.toList.take k = s.data.toList) := List.take_of_length_le (by omega)
      have hst := run_own_string hR.out
      go_wp2
      go_ret
      exact ⟨by rw [hkk.out]; rfl, hB.out⟩
end Go.Proofs.YtnbhpojcckhlmaaDoor
