/-
  The right sectors of bytes, from a number on: as a list, and the walk of the iterator over them.
-/
import Derived.Test.YtbaclihlckfndaaDoorK
namespace Go.Proofs.YtbaclihlckfndaaDoor
open Go.RowKit Go.Shelf
set_option linter.unusedVariables false
attribute [local go_sem] Oper.semAt_some

/-- The sector fits where the next number is nx, and a record is open or not. -/
def Next (nx : Nat) (op : Bool) (l : List Int) (p : Says) : Prop := Begins l p ∧ p.number = nx ∧ decide (p.flags % 2 = 1) ≠ op
/-- The right sectors of bytes. -/
inductive Rights : Nat → Bool → List Int → List Says → Prop
  | stop (nx : Nat) (op : Bool) (l : List Int) (h : ¬ ∃ p, Next nx op l p) : Rights nx op l []
  | step (nx : Nat) (op : Bool) (l : List Int) (p : Says) (ps : List Says) (h : Next nx op l p) (hs : Rights (nx + 1) (!decide (2 ≤ p.flags)) (l.drop 256) ps) : Rights nx op l (p :: ps)

/-- A part that is handed out: its bytes lie in the world w0. -/
structure Part (w0 : World) where
  a : Option Addr
  n : Nat
  cap : Nat
  p : Says
  ok : p.Ok
  has : Has w0 a n cap p.bytes
def Part.val {w0 : World} (x : Part w0) : Value := .agg #[.int .i64 (x.p.number : Int), .slice x.a x.n x.cap, .int .i64 (x.p.flags : Int)]
/-- What a round must keep: what lay there, and all parts. -/
def Kp53 (n₀ : Nat) (W W' : World) : Prop := Below n₀ W W' ∧ ∀ (k : Nat) (cs : Array Value) (fr : Nat × Nat), W.heap[k]? = some (Obj.cells cs 53 fr) → W'.heap[k]? = some (Obj.cells cs 53 fr)

theorem box3_heap {w : World} {g : Nat} {x y z : Value} {t : TypeId} (h : w.heap[g]? = some (.cells #[x, y, z] t (0, 0))) : Box3 w g x y z :=
  ⟨by simp [cell_of_row _ _ _ _ _ _ h], by simp [cell_of_row _ _ _ _ _ _ h], by simp [cell_of_row _ _ _ _ _ _ h]⟩
theorem below_grown {w w' : World} (h : Below w.heap.size w w') : w.grownBy w' none := ⟨h.os, h.tape, h.output, h.size, fun k hk _ => h.block k hk⟩
theorem abides_below {β : Type} {B : Nat} {J : β → World → Prop} (h : AbidesFrom B J) {s : β} {w w' : World} (hs : J s w) (hb : Below w.heap.size w w') : J s w' := h s w w' none hs (below_grown hb) (fun r e => by cases e)

set_option maxHeartbeats 1000000 in
theorem right_in (n : Nat) (x : Int) (a : Option Addr) (len cap : Nat) (w : World) :
    CallsIn Fence.wide n Tryd.prog 28 #[.int .i64 x, .slice a len cap] w fun e w' => e = .returned (.func (.func 36) #[] #[.pointer (some ⟨w.heap.size, 0, none⟩), .pointer (some ⟨w.heap.size + 1, 0, none⟩)]) ∧ w' = (w.alloc (.cells #[.int .i64 x] 3)).alloc (.cells #[.slice a len cap] 24) := by
  refine callsIn_of_wp Tryd.func28 rfl trivial ?_ rfl
  simp only [Tryd.ntmps28, List.size_toArray, List.length_cons, List.length_nil, Nat.reduceAdd, Nat.reduceSub, Array.replicate_succ, Array.replicate_zero, List.push_toArray, List.append_toArray, List.nil_append, List.cons_append]
  gi_wp2
  go_ret
  exact ⟨rfl, rfl⟩

theorem Has.rest {w : World} {b off len cap : Nat} {l : List Int} (h : Has w (some ⟨b, off, none⟩) len cap l) (k : Nat) (hk : k ≤ len) : Has w (some ⟨b, off + k, none⟩) (len - k) (cap - k) (l.drop k) := by
  have h1 := h.le
  have h2 := h.capb
  have := h.piece k (len - k) (by omega) (cap - k) (by omega) (by omega)
  rwa [List.take_of_length_le (by simp [h.hlen])] at this
theorem Has.rest0 {w : World} {b off len : Nat} {l : List Int} (h : Has w (some ⟨b, off, none⟩) len len l) : Has w (some ⟨b, off, none⟩) 0 0 (l.drop len) := by
  have := h.hlen
  rw [List.drop_of_length_le (by omega)]
  exact ⟨rfl, Nat.le_refl _, Nat.zero_le _, (fun e => by cases e), (fun hp => by omega), fun x hx => by cases hx⟩

set_option maxRecDepth 100000 in
set_option maxHeartbeats 4000000 in
theorem right1_in (n : Nat) (hn : 1 ≤ n) (y B1 B2 n₀ : Nat) (a : Option Addr) (len cap number : Nat) (zs : List Int) (w0 : World) (hh : Has w0 a len cap zs) (hw0 : w0.heap.size = n₀) (ht : Tab w0) (hnum : number ≤ 4294967296) (J Jx : List (Part w0) → World → Prop)
    (W : World) (hAJ : AbidesFrom W.heap.size J)
    (hY : ∀ pre (x : Part w0) W, J pre W → pre.length < zs.length → YieldAt Fence.wide (n - 1) Tryd.prog y #[x.val] W fun e W' =>
      (e = .returned (.bool true) ∧ J (pre ++ [x]) W' ∧ Kp53 n₀ W W') ∨ (e = .returned (.bool false) ∧ Jx (pre ++ [x]) W'))
    (hb0 : Below n₀ w0 W) (hB1 : W.cell? ⟨B1, 0, none⟩ = some (.int .i64 (number : Int))) (hB2 : W.cell? ⟨B2, 0, none⟩ = some (.slice a len cap)) (h0 : J [] W) :
    CallsIn Fence.wide n Tryd.prog 36 #[.func (.yield y) #[] #[], .pointer (some ⟨B1, 0, none⟩), .pointer (some ⟨B2, 0, none⟩)] W fun e W' => (∃ v, e = .returned v) ∧
      ((∃ ys, Rights number false zs (ys.map (·.p)) ∧ J ys W') ∨ (∃ pre, True ∧ Jx pre W')) := by
  replace ht := hide ht
  replace hh := hide hh
  replace hAJ := hide hAJ
  refine callsIn_of_wp Tryd.func36 rfl trivial ?_ rfl
  simp only [Tryd.ntmps36, List.size_toArray, List.length_cons, List.length_nil, Nat.reduceAdd, Nat.reduceSub, Array.replicate_succ, Array.replicate_zero, List.push_toArray, List.append_toArray, List.nil_append, List.cons_append]
  gi_wp2
  gi_loopw [4, 5, 6] (fun v o r wr => ∃ (nx : Nat) (op : Bool) (a' : Option Addr) (len' cap' : Nat) (l : List Int) (pre : List (Part w0)), nx ≤ 4294967296 ∧ v = .int .i64 nx ∧ o = .bool op ∧ r = .slice a' len' cap' ∧ Hid (Has w0 a' len' cap' l) ∧ Hid (J pre wr) ∧ Hid (Below n₀ w0 wr) ∧ pre.length * 256 + len' = zs.length ∧ Hid (∀ ps, Rights nx op l ps → Rights number false zs (pre.map (·.p) ++ ps)))
    (fun _ _ r _ => match r with | .slice _ n _ => n | _ => 0)
  case atStart => exact ⟨number, false, a, len, cap, zs, [], hnum, rfl, rfl, rfl, hh, h0, hb0, by have := hh.out.hlen; simp; omega, fun ps h => by simpa using h⟩
  case round =>
    obtain ⟨nx, op, a', len', cap', l, pre, hnx, rfl, rfl, rfl, hH, hJ, hB, hlen, hG⟩ := hrel
    have hlook := hide (look_any wr a' len' cap' l (hH.out.kept hB.out (by omega)) (ht.out.kept hB.out (by have := ht.out.pos; omega)))
    gi_wp2
    refine ⟨trivial, (callsIn_wide.2 hlook.out).mono ?_⟩
    rintro e w1 ⟨ok, N, a1, n1, c1, fl, rfl, T1, hok, hno⟩
    have hstop : ∀ W' : World, (¬ ∃ p, Next nx op l p) → Below wr.heap.size wr W' → (∃ ys : List (Part w0), Rights number false zs (ys.map (·.p)) ∧ J ys W') := fun W' hs hb => ⟨pre, by simpa using hG.out [] (Rights.stop nx op l hs), abides_below hAJ.out hJ.out hb⟩
    replace hstop := hide hstop
    cases ok with
    | false =>
      have hs : Hid (¬ ∃ p, Next nx op l p) := fun ⟨p, hp⟩ => hno rfl ⟨p, hp.1⟩
      gi_wp2
      refine ⟨trivial, ?_⟩
      gi_wp2
      refine ⟨fun _ _ => trivial, ?_⟩
      gi_wp2
      (try simp only [Exit.inBlock, Exit.then])
      refine bodyPost_ret (results_none rfl _ _ _) rfl ?_
      exact ⟨⟨_, rfl⟩, .inl (hstop.out _ hs.out (T1.alloc T1.size _))⟩
    | true =>
      obtain ⟨p, hb, rfl, rfl, hpiece⟩ := hok rfl
      have hl256 := begins_len hb
      have hHl := hH.out.hlen
      have hpo := hb.1
      have hfl := hpo.flags
      by_cases hN : p.number = nx
      · subst hN
        have hbeg := hide (begins_any (w1.alloc (.cells #[.int .i64 (p.number : Int), .slice a1 n1 c1, .int .i64 (p.flags : Int)] 53)) (.int .i64 (p.number : Int)) (.slice a1 n1 c1) p.flags hfl)
        obtain ⟨d, hd⟩ : ∃ d, decide (p.flags % 2 = 1) = d := ⟨_, rfl⟩
        rw [hd] at hbeg
        have hG1 : Hid ((w1.alloc (.cells #[.int .i64 (p.number : Int), .slice a1 n1 c1, .int .i64 (p.flags : Int)] 53)).heap[w1.heap.size]? = some (.cells #[.int .i64 (p.number : Int), .slice a1 n1 c1, .int .i64 (p.flags : Int)] 53 (0, 0))) := heap_alloc_new w1 _
        have T1' : Hid (Below wr.heap.size wr (w1.alloc (.cells #[.int .i64 (p.number : Int), .slice a1 n1 c1, .int .i64 (p.flags : Int)] 53))) := T1.alloc T1.size _
        gi_wp2
        refine ⟨trivial, (callsIn_wide.2 hbeg.out).mono ?_⟩
        rintro e w2 ⟨rfl, T2⟩
        have hG2 : Hid (w2.heap[w1.heap.size]? = some (.cells #[.int .i64 (p.number : Int), .slice a1 n1 c1, .int .i64 (p.flags : Int)] 53 (0, 0))) := (T2.block _ (by simp)).trans hG1.out
        have T2' : Hid (Below wr.heap.size wr w2) := T1'.out.trans (T2.mono (by simp; have := T1.size; omega))
        clear hG1 T1' T2 hbeg
        by_cases hdo : d = op
        · subst hdo
          have hs : Hid (¬ ∃ q, Next p.number d l q) := fun ⟨q, hq⟩ => hq.2.2 (by rw [begins_cand hq.1, ← begins_cand hb]; exact hd)
          gi_wp2
          refine ⟨fun _ _ => trivial, ?_⟩
          gi_wp2
          (try simp only [Exit.inBlock, Exit.then])
          refine bodyPost_ret (results_none rfl _ _ _) rfl ?_
          exact ⟨⟨_, rfl⟩, .inl (hstop.out _ hs.out T2'.out)⟩
        · have hdo' : (d == op) = false := by simpa using hdo
          have hX2 := box3_heap hG2.out
          have x0 := hX2.1
          have x1 := hX2.2.1
          have x2 := hX2.2.2
          have hyy : YieldAt Fence.wide (n - 1) Tryd.prog y #[.agg #[.int .i64 (p.number : Int), .slice a1 n1 c1, .int .i64 (p.flags : Int)]] w2 fun e W' =>
              (e = .returned (.bool true) ∧ J (pre ++ [⟨a1, n1, c1, p, hpo, hpiece w0 hH.out⟩]) W' ∧ Kp53 n₀ w2 W') ∨ (e = .returned (.bool false) ∧ Jx (pre ++ [⟨a1, n1, c1, p, hpo, hpiece w0 hH.out⟩]) W') :=
            hY pre ⟨a1, n1, c1, p, hpo, hpiece w0 hH.out⟩ w2 (abides_below hAJ.out hJ.out T2'.out) (by omega)
          obtain ⟨fn, tmps, assign, body, hy', hR⟩ := hyy
          gi_wp2
          refine hR.mono ?_
          rintro e W3 (⟨rfl, hJ3, hk3⟩ | ⟨rfl, hJx3⟩)
          · have hG3 : Hid (W3.heap[w1.heap.size]? = some (.cells #[.int .i64 (p.number : Int), .slice a1 n1 c1, .int .i64 (p.flags : Int)] 53 (0, 0))) := hk3.2 _ _ _ hG2.out
            have hX3 := box3_heap hG3.out
            have x03 := hX3.1
            have x13 := hX3.2.1
            have x23 := hX3.2.2
            have hends := hide (ends_any W3 (.int .i64 (p.number : Int)) (.slice a1 n1 c1) p.flags hfl)
            have hpn := hpo.number
            have hw : IntKind.i64.wrap ((p.number : Int) + 1) = (p.number : Int) + 1 := by rw [IntKind.wrap_i64]; omega
            gi_wp2
            refine ⟨trivial, (callsIn_wide.2 hends.out).mono ?_⟩
            rintro e W4 ⟨rfl, T4⟩
            obtain ⟨b, off, rfl, _, _⟩ := hH.out.cells (by omega)
            have hle := hH.out.le
            have i1 : (256 : Int) ≤ len' := by omega
            have i2 : (len' : Int) ≤ cap' := by omega
            have hB4 : Hid (Below n₀ w0 W4) := by
              have s1 := hB.out.size
              have s2 := T2'.out.size
              have s3 := hk3.1.size
              exact ((hB.out.trans (T2'.out.mono (by omega))).trans hk3.1).trans (T4.mono (by omega))
            have hJ4 : Hid (J (pre ++ [⟨a1, n1, c1, p, hpo, hpiece w0 hH.out⟩]) W4) := abides_below hAJ.out hJ3 T4
            have hG4 : Hid (∀ ps, Rights (p.number + 1) (!decide (2 ≤ p.flags)) (l.drop 256) ps → Rights number false zs ((pre ++ [(⟨a1, n1, c1, p, hpo, hpiece w0 hH.out⟩ : Part w0)]).map (·.p) ++ ps)) := fun ps hps => by
              have := hG.out (p :: ps) (Rights.step _ _ _ p ps ⟨hb, rfl, by rw [hd]; exact hdo⟩ hps)
              simpa using this
            by_cases hc : cap' = 256
            · obtain rfl : len' = cap' := by omega
              subst hc
              have hR0 := hide hH.out.rest0
              gi_wp2
              exact ⟨⟨p.number + 1, _, _, 0, 0, l.drop 256, _, by omega, v64 (by omega), rfl, rfl, hR0, hJ4, hB4, by simp; omega, hG4⟩, by simp⟩
            · have hR1 := hide (hH.out.rest 256 (by omega))
              gi_wp2
              exact ⟨⟨p.number + 1, _, _, len' - 256, cap' - 256, l.drop 256, _, by omega, v64 (by omega), rfl, rfl, hR1, hJ4, hB4, by simp; omega, hG4⟩, by simp; omega⟩
          · gi_wp2
            (try simp only [Exit.inBlock, Exit.then])
            refine bodyPost_ret (results_none rfl _ _ _) rfl ?_
            exact ⟨⟨_, rfl⟩, .inr ⟨_, trivial, hJx3⟩⟩
      · have hN' : ¬ ((p.number : Int) = (nx : Int)) := by omega
        have hs : Hid (¬ ∃ p, Next nx op l p) := fun ⟨q, hq⟩ => hN (by rw [begins_cand hb, ← begins_cand hq.1]; exact hq.2.1)
        gi_wp2
        refine ⟨trivial, ?_⟩
        gi_wp2
        refine ⟨fun _ _ => trivial, ?_⟩
        gi_wp2
        (try simp only [Exit.inBlock, Exit.then])
        refine bodyPost_ret (results_none rfl _ _ _) rfl ?_
        exact ⟨⟨_, rfl⟩, .inl (hstop.out _ hs.out (T1.alloc T1.size _))⟩
end Go.Proofs.YtbaclihlckfndaaDoor
