/-
  merged's iterator; kept.
-/
import Derived.Test.YthkfbdcocnhebaaD
import Derived.RangeFuncNested
import Derived.RangeFuncBound
import Derived.RangeFuncCalls
import Derived.RangeFuncLeaves
import Derived.RangeFuncFrom
import Derived.RangeFuncWrites
import Derived.Shelf.Abstract
import Derived.Shelf.RegionOpen
import Derived.OwnWalkIn
import Derived.TacticsInMore
import Derived.LoopNIn
import Derived.LoopIn
import Derived.Maps.AppendAt
namespace Go.Proofs.Ythkfbdcocnhebaa
open Go.RowKit Go.Shelf
set_option linter.unusedVariables false
set_option linter.unusedSimpArgs false
attribute [local go_sem] Oper.semAt_some

theorem cell_row {w : World} {g : Nat} {xs : Array Value} {t : TypeId} (h : w.heap[g]? = some (.cells xs t (0, 0))) (j : Nat) {v : Value} (hv : xs[j]? = some v) : w.cell? ⟨g, j, none⟩ = some v := by rw [cell_of_row w g j _ t (0, 0) h]; exact hv
theorem wide_fn (f : FuncId) : Fence.wide.fn f := by simp [Fence.wide]
theorem round_fn (l : Nat) (f : FuncId) : (Fence.wide.inRound l).fn f := by simp [Fence.wide, Fence.inRound]
/-- The blocks ahead of B0 lie as they lay. -/
def KB (B0 : Nat) (W W' : World) : Prop := W.heap.size ≤ W'.heap.size ∧ ∀ k, k < B0 → W'.heap[k]? = W.heap[k]?
theorem KB.refl (B0 : Nat) (W : World) : KB B0 W W := ⟨Nat.le_refl _, fun _ _ => rfl⟩
theorem KB.trans {B0 : Nat} {A B C : World} (h : KB B0 A B) (k : KB B0 B C) : KB B0 A C := ⟨Nat.le_trans h.1 k.1, fun i hi => (k.2 i hi).trans (h.2 i hi)⟩
theorem KB.below {B0 B : Nat} {A C : World} (h : Below B A C) (hB : B0 ≤ B) : KB B0 A C := ⟨h.size, fun k hk => h.block k (by omega)⟩
theorem HasU.kb {w w' W : World} {a : Option Addr} {len cap : Nat} {l : List Int} (h : HasU w a len cap l) (hb : Below w.heap.size w w') (hk : KB w.heap.size w' W) : HasU W a len cap l :=
  h.blocks (Nat.le_trans hb.size hk.1) (fun k hl => (hk.2 k hl).trans (hb.block k hl))
section
variable {F : Fence} {n : Nat} {w w' : World} {ops : Array Oper} {rest : List Oper} {a : Act} {Q : Exit → Act → World → Prop} {dst : Option Nat} {x y : Operand} {ty : TypeId} {pos : String} {after : Array Edge}
theorem wlI_val {op : Op} {v : Value} (hF : ∀ f, F.fn f) (hd : ∀ c, op ≠ .defer c) (hrun : (execOp a.eval ⟨dst, op, ty, pos, after, none⟩).run Try.prog w = .ok (.value v) w') (h : wpListIn F n Try.prog ops Q rest (a.put dst v) w') : wpListIn F n Try.prog ops Q (⟨dst, op, ty, pos, after, none⟩ :: rest) a w := by
  refine wpListIn_plain rfl fun K hK => ?_
  unfold Oper.wpIn
  refine ⟨fun f _ => hF f, ?_⟩
  rw [Oper.semAt_plain F _ _ (fun c => hd c), hrun]
  exact hK _ _ h
theorem wlI_skip {op : Op} (hF : ∀ f, F.fn f) (hd : ∀ c, op ≠ .defer c) (hrun : (execOp a.eval ⟨none, op, ty, pos, after, none⟩).run Try.prog w = .ok .skip w') (h : wpListIn F n Try.prog ops Q rest a w') : wpListIn F n Try.prog ops Q (⟨none, op, ty, pos, after, none⟩ :: rest) a w := by
  refine wpListIn_plain rfl fun K hK => ?_
  unfold Oper.wpIn
  refine ⟨fun f _ => hF f, ?_⟩
  rw [Oper.semAt_plain F _ _ (fun c => hd c), hrun]
  exact hK _ _ h
theorem atI_cut1 (h : wpListIn F n Try.prog ops Q (⟨dst, .slice 23 x (some (.const (.int .i64 1))) none none, ty, pos, after, none⟩ :: rest) a w) : wpListIn F n Try.prog ops Q (⟨dst, .slice 23 x (some (.const (.int .i64 1))) none none, ty, pos, after, none⟩ :: rest) a w := h
theorem wlI_cut1 (hF : ∀ f, F.fn f) {W0 : World} {b : Option Addr} {m c : Nat} {l : List Int} (H : Hid (HasU W0 b m c l)) (hx : a.eval x = .slice b m c) (hm : 0 < m) (h : ∀ b' m' c', Hid (m = m' + 1) → Hid (HasU W0 b' m' c' (l.drop 1)) → wpListIn F n Try.prog ops Q rest (a.put dst (.slice b' m' c')) w) : wpListIn F n Try.prog ops Q (⟨dst, .slice 23 x (some (.const (.int .i64 1))) none none, ty, pos, after, none⟩ :: rest) a w := by
  refine wlI_val hF (fun c => nofun) (w' := w) ?_ (h _ (m - 1) (c - 1) (by show _ = _; omega) (H.out.drop1 hm))
  have h1 : a.eval (.const (.int .i64 1)) = .int .i64 1 := rfl
  unfold execOp
  simp only [hx, h1, Option.map_some, Option.map_none, Sem.run_bind, run_cut1 w b m c hm, Result.andThen_ok, Sem.run_pure]
end
def lenOf : Value → Nat
  | .slice _ n _ => n
  | _ => 0
def encM (x : Mp) : Array Value := #[.int .u64 x.n, .int .i64 x.p]
set_option maxHeartbeats 4000000 in
set_option maxRecDepth 100000 in
theorem merged_stops (w0 : World) (a b : Option Addr) (na nb ca cb : Nat) (la lb : List Int) (Ha : HasU w0 a na ca la) (Hb : HasU w0 b nb cb lb) (hna : na ≤ 1000000000) (hnb : nb ≤ 1000000000) (n g g' : Nat) (w : World) (B0 : Below w0.heap.size w0 w)
    (hg : w.heap[g]? = some (.cells #[.slice a na ca] 23 (0, 0))) (hg' : w.heap[g']? = some (.cells #[.slice b nb cb] 23 (0, 0))) :
    SeqStopsK Fence.wide n Try.prog 67 #[.pointer (some ⟨g, 0, none⟩), .pointer (some ⟨g', 0, none⟩)] encM (KB w0.heap.size) (fun xs => xs.map Mp.v = mg la lb) (fun _ => True) (mg la lb).length w := fun l J Jx V hV hAJ hAJx hYY h0 => by
  have hgV := (hV.block g (Array.getElem?_eq_some_iff.1 hg).1).trans hg
  have hgV' := (hV.block g' (Array.getElem?_eq_some_iff.1 hg').1).trans hg'
  have cA := cell_row hgV 0 (v := .slice a na ca) rfl
  have cB := cell_row hgV' 0 (v := .slice b nb cb) rfl
  have BV : Hid (Below w0.heap.size w0 V) := B0.trans (hV.mono B0.size)
  replace hYY : Hid _ := hide hYY
  have hAJd : Hid (∀ pre W k, J pre W → J pre (W.drewN k)) := fun pre W k h => hAJ pre W _ none h ⟨rfl, rfl, rfl, Nat.le_refl _, fun _ _ _ => rfl⟩ (fun r e => by cases e)
  have hAJb : Hid (∀ pre W W', J pre W → Below W.heap.size W W' → J pre W') := fun pre W W' h hb => hAJ pre W _ none h ⟨hb.os, hb.tape, hb.output, hb.size, fun k hk _ => hb.block k hk⟩ (fun r e => by cases e)
  replace h0 := hide h0
  generalize hM : mg la lb = M at *
  replace hM := hide hM
  replace Ha := hide Ha
  replace Hb := hide Hb
  clear hV hgV hgV' hg hg' B0 hAJ
  show CallsIn Fence.wide n Try.prog 67 #[.func (.yield l) #[] #[], .pointer (some ⟨g, 0, none⟩), .pointer (some ⟨g', 0, none⟩)] V _
  refine callsIn_of_wp Try.func67 rfl trivial ?_ rfl
  simp only [Try.ntmps67, List.size_toArray, List.length_cons, List.length_nil, Nat.reduceAdd, Nat.reduceSub, Array.replicate_succ, Array.replicate_zero, List.push_toArray, List.append_toArray, List.nil_append, List.cons_append]
  gi_wp2
  gi_region
  obtain ⟨V1, hV1⟩ : ∃ V1, V.drew = V1 := ⟨_, rfl⟩
  have BV1 : Hid (Below w0.heap.size w0 V1) := by rw [← hV1]; exact below_drew BV.out
  have hJ1 : Hid (J [] V1) := by rw [← hV1]; exact hAJd.out [] V 1 h0.out
  rw [hV1]
  gi_wp2
  gi_loopw [4, 5] (fun va vb wr => ∃ (a1 a2 : Option Addr) (n1 n2 c1 c2 : Nat) (l1 l2 : List Int) (xs : List Mp), va = .slice a1 n1 c1 ∧ vb = .slice a2 n2 c2 ∧ n1 ≤ 1000000000 ∧ n2 ≤ 1000000000 ∧ Hid (HasU w0 a1 n1 c1 l1) ∧ Hid (HasU w0 a2 n2 c2 l2) ∧ Hid (xs.map Mp.v ++ mg l1 l2 = M) ∧ Hid (J xs wr) ∧ Hid (KB w0.heap.size V1 wr)) (fun va vb _ => lenOf va + lenOf vb)
  case atStart => exact ⟨a, b, na, nb, ca, cb, la, lb, [], rfl, rfl, hna, hnb, Ha, Hb, hM, hJ1, KB.refl _ _⟩
  case round =>
    obtain ⟨a1, a2, n1, n2, c1, c2, l1, l2, xs, rfl, rfl, hn1, hn2, H1, H2, hxs, hJr, hkr⟩ := hrel
    by_cases hne : 0 < n1 ∨ 0 < n2
    · have hne' := hide hne
      have FA := hide (first_any wr a1 a2 n1 n2 c1 c2 l1 l2 (H1.out.kb BV1.out hkr.out) (H2.out.kb BV1.out hkr.out) hn1 hn2 hne)
      have hgrd : 0 < n1 ∨ n1 = 0 := by omega
      have hl1 := hide H1.out.hlen
      have hl2 := hide H2.out.hlen
      have hst := mg_step l1 l2 (by
        rcases hne with h | h
        · exact .inl (fun e => by have := hl1.out; rw [e] at this; simp at this; omega)
        · exact .inr (fun e => by have := hl2.out; rw [e] at this; simp at this; omega))
      clear hne
      rcases hst with ⟨x, e1, p1, p2, e2⟩ | ⟨x, e1, p1, p2, e2⟩ | ⟨x, e1, p1, p3, p2, e2⟩
      · have hrg : 0 ≤ x ∧ x < 18446744073709551616 := H1.out.range x p2
        have q1 : 0 < n1 := by have := hl1.out; have := List.length_pos_iff.2 p1; omega
        have hstep : Hid ((xs ++ [(⟨x, 1, ⟨by decide, hrg⟩⟩ : Mp)]).map Mp.v ++ mg (l1.drop 1) l2 = M) := by
          have := hxs.out
          rw [e2] at this
          show _ = _
          rw [← this]
          simp [Mp.v]
        have hlen : xs.length < M.length := by
          rw [← hstep.out]
          simp
        obtain ⟨mp, hmp⟩ : ∃ mp : Mp, mp = ⟨x, 1, ⟨by decide, hrg⟩⟩ := ⟨_, rfl⟩
        rw [← hmp] at hstep
        have hen : encM mp = #[.int .u64 x, .int .i64 1] := by rw [hmp]; rfl
        rw [e1] at FA
        replace e2 := hide e2
        replace p1 := hide p1
        replace p2 := hide p2
        replace hrg := hide hrg
        replace hmp := hide hmp
        rcases hgrd with g1 | g1
        · skip
          gi_wp2_with fail
          refine ⟨trivial, fun h => (by cases h), (callsIn_wide.2 FA.out).mono ?_⟩
          rintro e w5 ⟨rfl, B5⟩
          have hk5 : Hid (KB w0.heap.size V1 w5) := hkr.out.trans (KB.below B5 (Nat.le_trans BV1.out.size hkr.out.1))
          obtain ⟨fn, tmps, assign, body, hy, hR⟩ := hYY.out xs mp w5 (hAJb.out _ _ _ hJr.out B5) hlen
          rw [hen] at hy
          replace B5 := hide B5
          gi_wp2_with (first | ((with_reducible refine atI_cut1 ?_); first | (refine wlI_cut1 wide_fn H1 rfl q1 ?_; clear H1; intro b1 m1 k1 hm1 Hd1) ))
          refine ⟨fun h => (by cases h), hR.mono ?_⟩
          clear hy hR
          rintro e W5 (⟨rfl, hJ5, hk6⟩ | ⟨rfl, hJx5⟩)
          · have hk7 : Hid (KB w0.heap.size V1 W5) := hk5.out.trans hk6
            replace hJ5 := hide hJ5
            clear hk6
            gi_wp2
            go_roundw
            case rel => exact ⟨_, _, _, _, _, _, _, _, _, rfl, rfl, by have := hm1.out; omega, hn2, Hd1, H2, hstep, hJ5, hk7⟩
            case measure => have := hm1.out; simp [lenOf]; omega
          · replace hJx5 := hide hJx5
            gi_wp2
            refine bodyPost_ret (results_none rfl _ _ _) rfl ?_
            exact ⟨⟨_, rfl⟩, .inr ⟨_, trivial, hJx5.out⟩⟩
        · omega
      · have hrg : 0 ≤ x ∧ x < 18446744073709551616 := H2.out.range x p2
        have q2 : 0 < n2 := by have := hl2.out; have := List.length_pos_iff.2 p1; omega
        have hstep : Hid ((xs ++ [(⟨x, 2, ⟨by decide, hrg⟩⟩ : Mp)]).map Mp.v ++ mg l1 (l2.drop 1) = M) := by
          have := hxs.out
          rw [e2] at this
          show _ = _
          rw [← this]
          simp [Mp.v]
        have hlen : xs.length < M.length := by
          rw [← hstep.out]
          simp
        obtain ⟨mp, hmp⟩ : ∃ mp : Mp, mp = ⟨x, 2, ⟨by decide, hrg⟩⟩ := ⟨_, rfl⟩
        rw [← hmp] at hstep
        have hen : encM mp = #[.int .u64 x, .int .i64 2] := by rw [hmp]; rfl
        rw [e1] at FA
        replace e2 := hide e2
        replace p1 := hide p1
        replace p2 := hide p2
        replace hrg := hide hrg
        replace hmp := hide hmp
        rcases hgrd with g1 | g1
        · skip
          gi_wp2_with fail
          refine ⟨trivial, fun h => (by cases h), (callsIn_wide.2 FA.out).mono ?_⟩
          rintro e w5 ⟨rfl, B5⟩
          have hk5 : Hid (KB w0.heap.size V1 w5) := hkr.out.trans (KB.below B5 (Nat.le_trans BV1.out.size hkr.out.1))
          obtain ⟨fn, tmps, assign, body, hy, hR⟩ := hYY.out xs mp w5 (hAJb.out _ _ _ hJr.out B5) hlen
          rw [hen] at hy
          replace B5 := hide B5
          gi_wp2_with (first | ((with_reducible refine atI_cut1 ?_); first  | (refine wlI_cut1 wide_fn H2 rfl q2 ?_; clear H2; intro b2 m2 k2 hm2 Hd2)))
          refine ⟨fun h => (by cases h), hR.mono ?_⟩
          clear hy hR
          rintro e W5 (⟨rfl, hJ5, hk6⟩ | ⟨rfl, hJx5⟩)
          · have hk7 : Hid (KB w0.heap.size V1 W5) := hk5.out.trans hk6
            replace hJ5 := hide hJ5
            clear hk6
            gi_wp2
            go_roundw
            case rel => exact ⟨_, _, _, _, _, _, _, _, _, rfl, rfl, hn1, by have := hm2.out; omega, H1, Hd2, hstep, hJ5, hk7⟩
            case measure => have := hm2.out; simp [lenOf]; omega
          · replace hJx5 := hide hJx5
            gi_wp2
            refine bodyPost_ret (results_none rfl _ _ _) rfl ?_
            exact ⟨⟨_, rfl⟩, .inr ⟨_, trivial, hJx5.out⟩⟩
        · subst g1
          gi_wp2_with fail
          refine ⟨trivial, fun h => (by cases h), (callsIn_wide.2 FA.out).mono ?_⟩
          rintro e w5 ⟨rfl, B5⟩
          have hk5 : Hid (KB w0.heap.size V1 w5) := hkr.out.trans (KB.below B5 (Nat.le_trans BV1.out.size hkr.out.1))
          obtain ⟨fn, tmps, assign, body, hy, hR⟩ := hYY.out xs mp w5 (hAJb.out _ _ _ hJr.out B5) hlen
          rw [hen] at hy
          replace B5 := hide B5
          gi_wp2_with (first | ((with_reducible refine atI_cut1 ?_); first  | (refine wlI_cut1 wide_fn H2 rfl q2 ?_; clear H2; intro b2 m2 k2 hm2 Hd2)))
          refine ⟨fun h => (by cases h), hR.mono ?_⟩
          clear hy hR
          rintro e W5 (⟨rfl, hJ5, hk6⟩ | ⟨rfl, hJx5⟩)
          · have hk7 : Hid (KB w0.heap.size V1 W5) := hk5.out.trans hk6
            replace hJ5 := hide hJ5
            clear hk6
            gi_wp2
            go_roundw
            case rel => exact ⟨_, _, _, _, _, _, _, _, _, rfl, rfl, hn1, by have := hm2.out; omega, H1, Hd2, hstep, hJ5, hk7⟩
            case measure => have := hm2.out; simp [lenOf]; omega
          · replace hJx5 := hide hJx5
            gi_wp2
            refine bodyPost_ret (results_none rfl _ _ _) rfl ?_
            exact ⟨⟨_, rfl⟩, .inr ⟨_, trivial, hJx5.out⟩⟩
      · have hrg : 0 ≤ x ∧ x < 18446744073709551616 := H1.out.range x p2
        have q1 : 0 < n1 := by have := hl1.out; have := List.length_pos_iff.2 p1; omega
        have q2 : 0 < n2 := by have := hl2.out; have := List.length_pos_iff.2 p3; omega
        have hstep : Hid ((xs ++ [(⟨x, 4, ⟨by decide, hrg⟩⟩ : Mp)]).map Mp.v ++ mg (l1.drop 1) (l2.drop 1) = M) := by
          have := hxs.out
          rw [e2] at this
          show _ = _
          rw [← this]
          simp [Mp.v]
        have hlen : xs.length < M.length := by
          rw [← hstep.out]
          simp
        obtain ⟨mp, hmp⟩ : ∃ mp : Mp, mp = ⟨x, 4, ⟨by decide, hrg⟩⟩ := ⟨_, rfl⟩
        rw [← hmp] at hstep
        have hen : encM mp = #[.int .u64 x, .int .i64 4] := by rw [hmp]; rfl
        rw [e1] at FA
        replace e2 := hide e2
        replace p1 := hide p1
        replace p2 := hide p2
        replace hrg := hide hrg
        replace hmp := hide hmp
        rcases hgrd with g1 | g1
        · skip
          gi_wp2_with fail
          refine ⟨trivial, fun h => (by cases h), (callsIn_wide.2 FA.out).mono ?_⟩
          rintro e w5 ⟨rfl, B5⟩
          have hk5 : Hid (KB w0.heap.size V1 w5) := hkr.out.trans (KB.below B5 (Nat.le_trans BV1.out.size hkr.out.1))
          obtain ⟨fn, tmps, assign, body, hy, hR⟩ := hYY.out xs mp w5 (hAJb.out _ _ _ hJr.out B5) hlen
          rw [hen] at hy
          replace B5 := hide B5
          gi_wp2_with (first | ((with_reducible refine atI_cut1 ?_); first | (refine wlI_cut1 wide_fn H1 rfl q1 ?_; clear H1; intro b1 m1 k1 hm1 Hd1) | (refine wlI_cut1 wide_fn H2 rfl q2 ?_; clear H2; intro b2 m2 k2 hm2 Hd2)))
          refine ⟨fun h => (by cases h), hR.mono ?_⟩
          clear hy hR
          rintro e W5 (⟨rfl, hJ5, hk6⟩ | ⟨rfl, hJx5⟩)
          · have hk7 : Hid (KB w0.heap.size V1 W5) := hk5.out.trans hk6
            replace hJ5 := hide hJ5
            clear hk6
            gi_wp2
            go_roundw
            case rel => exact ⟨_, _, _, _, _, _, _, _, _, rfl, rfl, by have := hm1.out; omega, by have := hm2.out; omega, Hd1, Hd2, hstep, hJ5, hk7⟩
            case measure => have := hm1.out; have := hm2.out; simp [lenOf]; omega
          · replace hJx5 := hide hJx5
            gi_wp2
            refine bodyPost_ret (results_none rfl _ _ _) rfl ?_
            exact ⟨⟨_, rfl⟩, .inr ⟨_, trivial, hJx5.out⟩⟩
        · omega
    · obtain rfl : n1 = 0 := by omega
      obtain rfl : n2 = 0 := by omega
      have e1 := H1.out.empty
      have e2 := H2.out.empty
      subst e1 e2
      have hx2 : Hid (xs.map Mp.v = M) := by have := hxs.out; rw [mg_nil, List.append_nil] at this; exact this
      gi_wp2
      go_end0
      exact ⟨⟨_, rfl⟩, .inl ⟨xs, hx2.out, hJr.out⟩⟩
end Go.Proofs.Ythkfbdcocnhebaa
