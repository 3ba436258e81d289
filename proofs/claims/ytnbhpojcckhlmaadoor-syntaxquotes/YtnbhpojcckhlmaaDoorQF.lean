/-
  length, text of a pattern that is bytes, one or in a row.
-/
import Derived.Test.YtnbhpojcckhlmaaDoorQE
namespace Go.Proofs.YtnbhpojcckhlmaaDoor
open Go.RowKit Go.Shelf Go.Lib
set_option linter.unusedVariables false
set_option linter.unusedSimpArgs false

section
variable {S : Nat → Prop} {w0 w : World} {L : List Ent} {ops : Array Oper} {rest : List Oper} {a : Act} {Q : Exit → Act → World → Prop} {dst : Option Nat} {x y : Operand} {ty : TypeId} {pos : String} {after : Array Edge}
theorem run_alloc41 (w : World) : (execOp a.eval ⟨dst, .alloc 41, ty, pos, after, none⟩).run Tryd.prog w = .ok (.value (.pointer (some ⟨w.heap.size, 0, none⟩))) (w.alloc (.cells #[.pointer none, .slice none 0 0] 41)) := by
  unfold execOp
  kernel_rfl
/-- A builder is made. -/
theorem wl_new41 (H : St S w0 w L) (h : ∀ w', St S w0 w' L → Hid (IsBuilder 41 5 w.heap.size w.heap.size (byteCells []) w') → Hid (Below w.heap.size w w') → wpList Tryd.prog ops Q rest (a.put dst (.pointer (some ⟨w.heap.size, 0, none⟩))) w') : wpList Tryd.prog ops Q (⟨dst, .alloc 41, ty, pos, after, none⟩ :: rest) a w := by
  refine wpList_plain rfl fun K hK => ?_
  unfold Oper.wp
  rw [run_alloc41, Oper.upon_value]
  have B := (Below.refl _ w).alloc (Nat.le_refl _) (.cells #[.pointer none, .slice none 0 0] 41)
  exact hK _ _ (h _ (H.call B (Nat.le_refl _)) (fresh_isBuilder 41 5 w) B)
end
theorem builderAt_below {T e : TypeId} {B b : Nat} {p : Value} {bs : List Value} {w w' : World} (h : BuilderAt T e B b p bs w) (hb : Below w.heap.size w w') : BuilderAt T e B b p bs w' := by
  have hlt := h.lt
  obtain ⟨hB, v, hbk, hown, hne⟩ := h
  exact ⟨hB, v, (hb.block b hlt).trans hbk, hown.kept (below_grown hb) (Classical.em _), hne⟩
theorem isBuilder_below {T e : TypeId} {B b : Nat} {bs : List Value} {w w' : World} (h : IsBuilder T e B b bs w) (hb : Below w.heap.size w w') : IsBuilder T e B b bs w' := h.imp (fun h => builderAt_below h hb) (fun h => builderAt_below h hb)
theorem lvs_nth : ∀ (l : List UInt8) (i : Nat), i < l.length → (lvs l).nth i = (⟨1, sg (l.getD i 0), 0, 0⟩, .nil)
  | [], i, h => by simp at h
  | c :: l, 0, _ => rfl
  | c :: l, i + 1, h => by
    have := lvs_nth l i (by simpa using h)
    simpa [lvs, Fo.nth] using this
/-- A row of single bytes in memory. -/
def Lv (w : World) (a : Option Addr) (l : List UInt8) : Prop := ∀ i, i < l.length → ∃ b va vc, a = some ⟨b, 0, none⟩ ∧ b < w.heap.size ∧ ∀ w', Below w.heap.size w w' → (loadVar 28 ⟨b, i * 8, none⟩).run Tryd.prog w' = .ok (reV 1 (sg (l.getD i 0)) (.slice va 0 vc) 0 0) w'
theorem lv_of {w : World} {P : Nat → Prop} {v : Value} {l : List UInt8} {zs : List Value} (ho : w.ownsRow 0 28 8 v (lvs l).len zs) (hk : Kd w P (lvs l) zs) : ∃ a cap, v = .slice a l.length cap ∧ Lv w a l := by
  rw [lvs_len] at ho
  obtain ⟨a, cap, rfl, _, _⟩ := owns8_val ho
  refine ⟨a, cap, rfl, fun i hi => ?_⟩
  obtain ⟨v, zs', h1, h2, _⟩ := hk.nth i (by rw [lvs_len]; exact hi)
  rw [lvs_nth l i hi] at h1 h2
  simp only [Fo.len] at h1 h2
  obtain ⟨va, vc, rfl, _, _⟩ := owns8_val h2
  rcases ho.2 with ⟨_, h0⟩ | ⟨g, cap', cur, hv, _, hg, _⟩
  · omega
  · cases hv
    have hgl := (Array.getElem?_eq_some_iff.1 hg).1
    refine ⟨g, va, vc, rfl, hgl, fun w' hb => load28c (fun j u hj => ?_)⟩
    have := ho.cells (g := g) rfl (i * 8 + j) u (h1 j u hj)
    rw [add_plain, Nat.zero_add] at this
    exact (hb.cell (p := ⟨g, i * 8 + j, none⟩) hgl).trans this
set_option maxHeartbeats 4000000 in
theorem length_leaf (s : S4) (va : Option Addr) (vc : Nat) (w : World) : Calls Tryd.prog 21 #[reV 1 s (.slice va 0 vc) 0 0] w fun e w' => e = .returned (.int .i64 1) ∧ Below w.heap.size w w' := by
  have H := St.start Nope w
  go_enter Tryd.func21, Tryd.ntmps21
  go_wp2_with (first | ((with_reducible refine at_box 28 ?_); refine wl_box28 H rfl ?_; clear H; intro g w' H q1 q2; have c0 := H.cell 0 0 rfl (v := .int .i64 (1)) rfl; have c5 := H.cell 0 5 rfl (v := .slice va 0 vc) rfl; have c6 := H.cell 0 6 rfl (v := .int .i64 (0)) rfl; have c7 := H.cell 0 7 rfl (v := .int .i64 (0)) rfl))
  go_ret
  exact ⟨rfl, H.below⟩
set_option maxHeartbeats 4000000 in
theorem length_row (a : Option Addr) (cap : Nat) (l : List UInt8) (hl : l.length ≤ 256) (w : World) (hL : Lv w a l) : Calls Tryd.prog 21 #[reV 2 noSet (.slice a l.length cap) 0 0] w fun e w' => e = .returned (.int .i64 (l.length : Int)) ∧ Below w.heap.size w w' := by
  have H := St.start Nope w
  replace hL := hide hL
  obtain ⟨n, hn⟩ : ∃ n, l.length = n := ⟨_, rfl⟩
  rw [hn] at hl ⊢
  replace hn := hide hn
  go_enter Tryd.func21, Tryd.ntmps21
  go_wp2_with (first | ((with_reducible refine at_box 28 ?_); refine wl_box28 H rfl ?_; clear H; intro g w' H q1 q2; have c0 := H.cell 0 0 rfl (v := .int .i64 (2)) rfl; have c5 := H.cell 0 5 rfl (v := .slice a n cap) rfl; have c6 := H.cell 0 6 rfl (v := .int .i64 (0)) rfl; have c7 := H.cell 0 7 rfl (v := .int .i64 (0)) rfl))
  go_loopw [3, 11] (fun v i wr => ∃ k : Nat, k ≤ n ∧ v = .int .i64 (k : Int) ∧ i = .int .i64 (k : Int) ∧ Hid (Below w.heap.size w wr)) (fun _ i _ => n - (RowKit.intOf i).toNat)
  case atStart => exact ⟨0, Nat.zero_le _, rfl, rfl, H.below⟩
  case round =>
    obtain ⟨k, hk, rfl, rfl, hB⟩ := hrel
    clear H c0 c5 c6 c7
    by_cases hlt : k < n
    · have i1 : (k : Int) < (n : Int) := by omega
      obtain ⟨b, va, vc, rfl, hb, hload⟩ := hL.out k (by have := hn.out; omega)
      have hl28 := hide (hload wr hB.out)
      clear hload
      have H := St.start Nope wr
      go_wp2_with (first | (with_reducible refine at_alloc 28 ?_; refine wl_alloc28 H ?_; clear H; intro g3 w3 H q3 q4) | (with_reducible refine at_store 28 ?_; refine wl_store28 0 H rfl rfl rfl rfl ?_; clear H; intro w4 H) | (with_reducible refine at_load 28 ?_; first | (refine wl_load28 0 H rfl rfl ?_) | (refine wl_loadA 28 rfl hl28.out ?_)))
      refine (length_leaf _ _ _ _).mono ?_
      rintro e w5 ⟨rfl, B5⟩
      replace H := H.call B5 (Nat.le_refl _)
      have B6 : Hid (Below w.heap.size w w5) := hB.out.trans (H.below.mono hB.out.size)
      clear B5
      go_wp2_with fail
      go_roundw
      case rel => exact ⟨k + 1, by omega, by go_num, by go_num, B6⟩
      case measure => simp [RowKit.intOf]; omega
    · obtain rfl : k = n := by omega
      have i1 : ¬ (k : Int) < (k : Int) := by omega
      have i2 : (k : Int) < 65537 := by omega
      go_wp2_with fail
      go_ret
      exact ⟨by first | rfl | (simp; omega), hB.out⟩
set_option maxHeartbeats 4000000 in
theorem text_leaf (c : UInt8) (va : Option Addr) (vc : Nat) (w : World) (hT : Tab w) : Calls Tryd.prog 22 #[reV 1 (sg c) (.slice va 0 vc) 0 0] w fun e w' => e = .returned (.string ⟨#[c]⟩) ∧ Below w.heap.size w w' := by
  have H := St.start Nope w
  replace hT := hide hT
  go_enter Tryd.func22, Tryd.ntmps22
  go_wp2_with (first | ((with_reducible refine at_box 28 ?_); refine wl_box28 H rfl ?_; clear H; intro g w1 H q1 q2; have hw1 := H.below.size) | ((with_reducible refine at_alloc 41 ?_); refine wl_new41 H ?_; clear H; intro w2 H IB B2; have c0 := H.cell 0 0 rfl (v := .int .i64 (1)) rfl; have c5 := H.cell 0 5 rfl (v := .slice va 0 vc) rfl; have c6 := H.cell 0 6 rfl (v := .int .i64 (0)) rfl; have c7 := H.cell 0 7 rfl (v := .int .i64 (0)) rfl; have hs2 := B2.out.size) | ((with_reducible refine at_load 25 ?_); refine wl_loadA 25 rfl (load25f (H.get 0 rfl)) ?_))
  refine (only_any (sg c) (sg_ok c) _ (hT.out.below H.below)).mono ?_
  rintro e w3 ⟨rfl, B3⟩
  rw [only_sg]
  replace H := H.call B3 (Nat.le_refl _)
  have IB3 := hide (isBuilder_below IB.out B3)
  have hs3 := B3.size
  clear B3
  go_wp2_with fail
  refine (wb_any w1.heap.size w1.heap.size [] c w3 IB3.out (by simp) (by omega)).mono ?_
  rintro e w4 ⟨rfl, IB4, B4⟩
  replace IB4 := hide IB4
  have hs4 := B4.size
  replace B4 := hide B4
  go_wp2_with fail
  refine (st_any w1.heap.size w1.heap.size _ w4 IB4.out (by omega)).mono ?_
  rintro e w5 ⟨rfl, B5⟩
  have hfin := hide ((H.below).trans ((B4.out.trans B5).mono hw1))
  clear B5
  go_wp2_with fail
  go_ret
  exact ⟨rfl, hfin.out⟩
set_option maxHeartbeats 4000000 in
theorem text_row (a : Option Addr) (cap : Nat) (l : List UInt8) (hl : l.length ≤ 256) (w : World) (hT : Tab w) (hL : Lv w a l) : Calls Tryd.prog 22 #[reV 2 noSet (.slice a l.length cap) 0 0] w fun e w' => e = .returned (.string ⟨l.toArray⟩) ∧ Below w.heap.size w w' := by
  have H := St.start Nope w
  replace hT := hide hT
  replace hL := hide hL
  obtain ⟨n, hn⟩ : ∃ n, l.length = n := ⟨_, rfl⟩
  rw [hn] at hl ⊢
  replace hn := hide hn
  go_enter Tryd.func22, Tryd.ntmps22
  go_wp2_with (first | ((with_reducible refine at_box 28 ?_); refine wl_box28 H rfl ?_; clear H; intro g w1 H q1 q2; have hw1 := H.below.size) | ((with_reducible refine at_alloc 41 ?_); refine wl_new41 H ?_; clear H; intro w2 H IB B2; have c0 := H.cell 0 0 rfl (v := .int .i64 (2)) rfl; have c5 := H.cell 0 5 rfl (v := .slice a n cap) rfl; have c6 := H.cell 0 6 rfl (v := .int .i64 (0)) rfl; have c7 := H.cell 0 7 rfl (v := .int .i64 (0)) rfl; have hs2 := B2.out.size))
  go_loopw [13] (fun i wr => ∃ k : Nat, k ≤ n ∧ i = .int .i64 (k : Int) ∧ Hid (IsBuilder 41 5 w1.heap.size w1.heap.size (byteCells (l.take k)) wr ∧ Below w.heap.size w wr ∧ w1.heap.size ≤ wr.heap.size)) (fun i _ => n - (RowKit.intOf i).toNat)
  case atStart => exact ⟨0, Nat.zero_le _, rfl, IB.out, H.below, hs2⟩
  case round =>
    obtain ⟨k, hk, rfl, hR⟩ := hrel
    clear H c0 c5 c6 c7 IB
    by_cases hlt : k < n
    · have i1 : (k : Int) < (n : Int) := by omega
      have hkl : k < l.length := by have := hn.out; omega
      obtain ⟨b, va, vc, rfl, hb, hload⟩ := hL.out k hkl
      have hl28 := hide (hload wr hR.out.2.1)
      have htk : Hid (l.take (k + 1) = l.take k ++ [l.getD k 0]) := by
        show _ = _
        rw [List.take_add_one, List.getD_eq_getElem?_getD, List.getElem?_eq_getElem hkl]; rfl
      clear hload
      generalize l.getD k 0 = c at *
      replace hkl := hide hkl
      have H := St.start Nope wr
      go_wp2_with (first | (with_reducible refine at_alloc 28 ?_; refine wl_alloc28 H ?_; clear H; intro g3 w3 H q3 q4) | (with_reducible refine at_store 28 ?_; refine wl_store28 0 H rfl rfl rfl rfl ?_; clear H; intro w4 H) | (with_reducible refine at_load 28 ?_; first | (refine wl_load28 0 H rfl rfl ?_) | (refine wl_loadA 28 rfl hl28.out ?_)))
      refine (text_leaf c _ _ _ ((hT.out.below hR.out.2.1).below H.below)).mono ?_
      rintro e w5 ⟨rfl, B5⟩
      replace H := H.call B5 (Nat.le_refl _)
      have IB5 := hide (isBuilder_below hR.out.1 H.below)
      have hs5 := H.below.size
      have hwr := hR.out.2.2
      have hww := hR.out.2.1.size
      have hB5 := hide (hR.out.2.1.trans (H.below.mono hww))
      clear B5
      go_wp2_with fail
      refine (ws_any w1.heap.size w1.heap.size (l.take k) ⟨#[c]⟩ w5 IB5.out (by simp [ByteArray.size]; omega) (by omega)).mono ?_
      rintro e w6 ⟨rfl, IB6, B6⟩
      have hR6 : Hid (IsBuilder 41 5 w1.heap.size w1.heap.size (byteCells (l.take (k + 1))) w6 ∧ Below w.heap.size w w6 ∧ w1.heap.size ≤ w6.heap.size) := ⟨by rw [htk.out]; exact IB6, hB5.out.trans (B6.mono hw1), by have := B6.size; omega⟩
      clear IB6 B6
      go_wp2_with fail
      go_roundw
      case rel => exact ⟨k + 1, by omega, by go_num, hR6⟩
      case measure => simp [RowKit.intOf]; omega
    · obtain rfl : k = n := by omega
      have i1 : ¬ (k : Int) < (k : Int) := by omega
      have hkk : Hid (l.take k = l) := List.take_of_length_le (by have := hn.out; omega)
      have ST := hide (st_any w1.heap.size w1.heap.size (l.take k) wr hR.out.1 hR.out.2.2)
      go_wp2_with fail
      refine ST.out.mono ?_
      rintro e w5 ⟨rfl, B5⟩
      replace B5 := hide B5
      go_wp2_with fail
      go_ret
      exact ⟨by rw [hkk.out]; rfl, hR.out.2.1.trans (B5.out.mono hw1)⟩
end Go.Proofs.YtnbhpojcckhlmaaDoor
