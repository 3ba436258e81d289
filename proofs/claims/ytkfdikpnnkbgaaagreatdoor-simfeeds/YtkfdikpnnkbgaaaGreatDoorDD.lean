/-
  The iterator over a program's instructions.
-/
import Derived.Test.YtkfdikpnnkbgaaaGreatDoorDC
namespace Go.Proofs.YtkfdikpnnkbgaaaGreatDoor
open Go.RowKit Go.Shelf
set_option linter.unusedVariables false
set_option linter.unusedSimpArgs false
attribute [local go_sem] Oper.semAt_some

/-- Since W blocks below B0 have not turned but those in X. -/
def KO (B0 : Nat) (X : Nat → Prop) (W W' : World) : Prop := W.heap.size ≤ W'.heap.size ∧ ∀ k, k < B0 → k < W.heap.size → ¬ X k → W'.heap[k]? = W.heap[k]?
theorem KO.refl (B0 : Nat) (X : Nat → Prop) (W : World) : KO B0 X W W := ⟨Nat.le_refl _, fun _ _ _ _ => rfl⟩
theorem KO.trans {B0 : Nat} {X : Nat → Prop} {A B C : World} (h : KO B0 X A B) (k : KO B0 X B C) : KO B0 X A C := ⟨Nat.le_trans h.1 k.1, fun i hi hl hn => (k.2 i hi (by have := h.1; omega) hn).trans (h.2 i hi hl hn)⟩
theorem KO.below {B0 : Nat} {X : Nat → Prop} {W W' : World} {B : Nat} (h : Below B W W') (hB : W.heap.size ≤ B) : KO B0 X W W' := ⟨h.size, fun k _ hl _ => h.block k (by omega)⟩
/-- Instructions that can be read. -/
def HsI (w : World) (Y : Nat → Prop) (a : Option Addr) (L : List Ins) : Prop := L = [] ∨ ∃ b off cur t fr, a = some ⟨b, off, none⟩ ∧ Y b ∧ w.heap[b]? = some (.cells cur t fr) ∧ ∀ k i, L[k]? = some i → ∀ j u, (insA i)[j]? = some u → cur[off + k * 7 + j]? = some u
theorem HsI.load {w w' : World} {Y : Nat → Prop} {a : Option Addr} {L : List Ins} (h : HsI w Y a L) (hk : ∀ k, Y k → k < w.heap.size → w'.heap[k]? = w.heap[k]?) {k : Nat} {i : Ins} (hi : L[k]? = some i) : ∃ b off, a = some ⟨b, off, none⟩ ∧ (loadVar 102 ⟨b, off + k * 7, none⟩).run Tryz.prog w' = .ok (insV i) w' := by
  rcases h with rfl | ⟨b, off, cur, t, fr, rfl, hy, hb, hc⟩
  · simp at hi
  · refine ⟨b, off, rfl, loadIc (fun j u hj => ?_)⟩
    have hb' := (hk b hy (Array.getElem?_eq_some_iff.1 hb).1).trans hb
    rw [cell_of_row w' b _ _ t fr hb']
    exact hc k i hi j u hj
theorem HsI.kept {w w' : World} {Y Y' : Nat → Prop} {a : Option Addr} {L : List Ins} (h : HsI w Y a L) (hk : ∀ k, Y k → k < w.heap.size → w'.heap[k]? = w.heap[k]?) (hY : ∀ k, k < w.heap.size → Y k → Y' k) : HsI w' Y' a L := by
  rcases h with rfl | ⟨b, off, cur, t, fr, rfl, hy, hb, hc⟩
  · exact .inl rfl
  · have hl := (Array.getElem?_eq_some_iff.1 hb).1
    exact .inr ⟨b, off, cur, t, fr, rfl, hY b hl hy, (hk b hy hl).trans hb, hc⟩
theorem RI.hs {w : World} {v : Value} {L : List Ins} (h : RI w v L) : ∃ a c, v = .slice a L.length c ∧ HsI w (fun k => v.ownBlock = some k) a L := by
  rcases h.2 with ⟨rfl, h0⟩ | ⟨g, cap, cur, rfl, _, hg, _, _, _, ht⟩
  · exact ⟨none, 0, by rw [h0], .inl (List.eq_nil_of_length_eq_zero h0)⟩
  · refine ⟨_, cap, rfl, .inr ⟨g, 0, cur, 102, (0, 0), rfl, rfl, hg, fun k i hi j u hj => ?_⟩⟩
    have h1 := flatI_at L k i hi j u hj
    rw [← ht] at h1
    have h2 := (List.getElem?_eq_some_iff.1 h1).1
    rw [List.getElem?_take_of_lt (by simp at h2; omega)] at h1
    rw [Nat.zero_add]
    simpa using h1
/-- One that is handed out. -/
def encI {Pr : Ins → Prop} (x : { i : Ins // Pr i }) : Array Value := #[fmV (fm x.1.op), insV x.1]
section
variable {F : Fence} {n : Nat} {w w' : World} {ops : Array Oper} {rest : List Oper} {a : Act} {Q : Exit → Act → World → Prop} {dst : Option Nat} {x y : Operand} {ty : TypeId} {pos : String} {after : Array Edge}
theorem wlI_box29 (hF : ∀ f, F.fn f) {ad : Option Addr} {m c : Nat} (hx : a.eval x = .slice ad m c) (h : ∀ g w', w'.heap[g]? = some (.cells #[.slice ad m c] 30 (0, 0)) → Below w.heap.size w w' → w.heap.size ≤ g → wpListIn F n Tryz.prog ops Q rest (a.put dst (.pointer (some ⟨g, 0, none⟩))) w') : wpListIn F n Tryz.prog ops Q (⟨dst, .box 30 x, ty, pos, after, none⟩ :: rest) a w := by
  have e : (execOp a.eval ⟨dst, .box 30 x, ty, pos, after, none⟩).run Tryz.prog w = .ok (.value (.pointer (some ⟨w.heap.size, 0, none⟩))) (w.alloc (.cells #[.slice ad m c] 30)) := by
    unfold execOp
    simp only [hx]
    kernel_rfl
  exact wlI_val hF (fun c => nofun) e (h _ _ (heap_alloc_new w _) ((Below.refl _ w).alloc (Nat.le_refl _) _) (Nat.le_refl _))
end
theorem ld29 {w : World} {ad : Addr} {v : Value} (h : w.cell? ad = some v) : (loadVar 30 ad).run Tryz.prog w = .ok v w := by
  have ha : ∀ w, (isAgg 30).run Tryz.prog w = .ok false w := fun w => by kernel_rfl
  simp [loadVar, ha, go_sem, h]
set_option maxHeartbeats 2000000 in
theorem formed_in (n : Nat) (ad : Option Addr) (m c : Nat) (w : World) : CallsIn Fence.wide n Tryz.prog 78 #[.slice ad m c] w fun e w' => ∃ g, e = .returned (.func (.func 116) #[] #[.pointer (some ⟨g, 0, none⟩)]) ∧ w'.heap[g]? = some (.cells #[.slice ad m c] 30 (0, 0)) ∧ Below w.heap.size w w' ∧ w.heap.size ≤ g := by
  have hmf : ∀ (fn : Fn) (first cap : Array Value) (w : World), (Instr.makeFunc fn first cap).run Tryz.prog w = .ok (.func fn first cap) w := fun _ _ _ _ => rfl
  refine callsIn_of_wp Tryz.func78 rfl trivial ?_ rfl
  simp only [Tryz.ntmps78, List.size_toArray, List.length_cons, List.length_nil, Nat.reduceAdd, Nat.reduceSub, Array.replicate_succ, Array.replicate_zero, List.push_toArray, List.append_toArray, List.nil_append, List.cons_append]
  gi_wp2_with (first | ((with_reducible refine atI_box 30 ?_); refine wlI_box29 wide_fn rfl ?_; intro g w1 hb B1 hge; replace hb := hide hb))
  go_ret
  exact ⟨g, rfl, hb.out, B1, hge⟩
set_option maxHeartbeats 4000000 in
set_option maxRecDepth 100000 in
theorem formed_stops {Pr : Ins → Prop} (B0 : Nat) (X Y : Nat → Prop) (n : Nat) (B : Nat) (ad : Option Addr) (c : Nat) (L : List Ins) (w : World) (hBb : w.heap[B]? = some (.cells #[.slice ad L.length c] 30 (0, 0))) (hL : HsI w Y ad L) (hY : ∀ k, Y k → k < B0 ∧ ¬ X k) (hB0 : B < B0) (hXB : ¬ X B) (hPr : ∀ i ∈ L, Pr i) (hlen : L.length ≤ 100000) :
    SeqStopsK Fence.wide n Tryz.prog 116 #[.pointer (some ⟨B, 0, none⟩)] (encI (Pr := Pr)) (KO B0 X) (fun xs => xs.map (·.1) = L) (fun pre => pre.map (·.1) <+: L) L.length w := fun l J Jx W hW hAJ hAJx hYY h0 => by
  have hBl : B < w.heap.size := (Array.getElem?_eq_some_iff.1 hBb).1
  have hBW := (hW.block B hBl).trans hBb
  have cB := cell_row hBW 0 (v := .slice ad L.length c) rfl
  have hLW : Hid (HsI W Y ad L) := hL.kept (fun k _ hl => hW.block k hl) (fun k _ h => h)
  replace hYY : Hid _ := hide hYY
  replace hW := hide hW
  replace hAJh := hide hAJ
  replace h0 := hide h0
  replace hPr := hide hPr
  replace hBW := hide hBW
  replace hY := hide hY
  clear hL hBb
  show CallsIn Fence.wide n Tryz.prog 116 #[.func (.yield l) #[] #[], .pointer (some ⟨B, 0, none⟩)] W _
  refine callsIn_of_wp Tryz.func116 rfl trivial ?_ rfl
  simp only [Tryz.ntmps116, List.size_toArray, List.length_cons, List.length_nil, Nat.reduceAdd, Nat.reduceSub, Array.replicate_succ, Array.replicate_zero, List.push_toArray, List.append_toArray, List.nil_append, List.cons_append]
  gi_wp2_with (first | ((with_reducible refine atI_load 30 ?_); refine wlI_load 30 wide_fn rfl (ld29 cB) ?_))
  gi_loopw [7] (fun iv wr => ∃ (k : Nat) (xs : List { i : Ins // Pr i }), iv = .int .i64 ((k : Nat) : Int) ∧ k ≤ L.length ∧ Hid (xs.map (·.1) = L.take k) ∧ Hid (J xs wr) ∧ Hid (KO B0 X W wr)) (fun iv _ => L.length - (intOf iv).toNat)
  case atStart => exact ⟨0, [], rfl, Nat.zero_le _, (rfl : _ = _), h0, KO.refl _ _ _⟩
  case round =>
    obtain ⟨k, xs, rfl, hkl, hxs, hJr, hkr⟩ := hrel
    by_cases hlt : k < L.length
    · have i1 : (k : Int) < (L.length : Int) := by omega
      obtain ⟨i, hi⟩ : ∃ i, L[k]? = some i := ⟨_, List.getElem?_eq_getElem hlt⟩
      obtain ⟨b, off, hadr, hld⟩ := hLW.out.load (w' := wr) (fun j hj hl => hkr.out.2 j (hY.out j hj).1 hl (hY.out j hj).2) hi
      subst hadr
      have hPi := hPr.out i (List.mem_of_getElem? hi)
      have hxl : xs.length = k := by
        have := congrArg List.length hxs.out
        simp at this
        omega
      replace hld := hide hld
      have hltH := hide hlt
      gi_wp2_with (first | ((with_reducible refine atI_load 102 ?_); refine wlI_load 102 wide_fn rfl hld.out ?_) | ((with_reducible refine atI_newI ?_); refine wlI_newI (i := i) wide_fn (fun _ => rfl) (fun _ => rfl) ?_; intro g4 w4 hb4 B4 hg4; replace hb4 := hide hb4; replace B4 := hide B4))
      refine reg42_3 _ w4 l g4 i (fun e W' => (e = .returned (.bool true) ∧ J (xs ++ [⟨i, hPi⟩]) W' ∧ KO B0 X wr W') ∨ (e = .returned (.bool false) ∧ Jx (xs ++ [⟨i, hPi⟩]) W')) hb4.out (fun w' hb => ?_) _ _ _ _ _ _ _ _ _ _ _ _ _ _ _ _ _ _ ?_
      · have hb2 : Below wr.heap.size wr w' := B4.out.trans (hb.mono B4.out.size)
        refine (yield_wide (hYY.out xs ⟨i, hPi⟩ w' (abides_below hAJh.out hJr.out hb2) (by omega))).mono ?_
        rintro e W' (⟨h1, h2, h3⟩ | ⟨h1, h2⟩)
        · exact .inl ⟨h1, h2, (KO.below hb2 (Nat.le_refl _)).trans h3⟩
        · exact .inr ⟨h1, h2⟩
      · rintro e W5 (⟨rfl, hJ5, hk5⟩ | ⟨rfl, hJx5⟩)
        · refine ⟨true, rfl, ?_⟩
          have hJ6 := hide hJ5
          have hk6 : Hid (KO B0 X W W5) := hkr.out.trans hk5
          have hx6 : Hid ((xs ++ [(⟨i, hPi⟩ : { i : Ins // Pr i })]).map (·.1) = L.take (k + 1)) := by
            show _ = _
            rw [List.map_append, hxs.out, List.take_add_one, hi]
            rfl
          clear hJ5 hk5
          gi_wp2
          go_roundw
          case rel => exact ⟨k + 1, _, by go_num, hltH.out, hx6, hJ6, hk6⟩
          case measure => have := hltH.out; simp [intOf]; omega
        · refine ⟨false, rfl, ?_⟩
          have hpre : Hid ((xs ++ [(⟨i, hPi⟩ : { i : Ins // Pr i })]).map (·.1) <+: L) := by
            show _ <+: _
            rw [List.map_append, hxs.out]
            have : L.take k ++ [i] = L.take (k + 1) := by rw [List.take_add_one, hi]; rfl
            show L.take k ++ [i] <+: L
            rw [this]
            exact List.take_prefix _ _
          replace hJx5 := hide hJx5
          gi_wp2
          refine bodyPost_ret (results_none rfl _ _ _) rfl ?_
          exact ⟨⟨_, rfl⟩, .inr ⟨_, hpre.out, hJx5.out⟩⟩
    · obtain rfl : k = L.length := by omega
      have hx2 : Hid (xs.map (·.1) = L) := by have := hxs.out; rwa [List.take_length] at this
      gi_wp2
      go_end0
      exact ⟨⟨_, rfl⟩, .inl ⟨xs, hx2.out, hJr.out⟩⟩
end Go.Proofs.YtkfdikpnnkbgaaaGreatDoor
