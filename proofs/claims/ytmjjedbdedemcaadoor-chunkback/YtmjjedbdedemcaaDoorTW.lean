/-
  slices.Chunk: the walk of its iterator.
-/
import Derived.Test.YtmjjedbdedemcaaDoorTV
namespace Go.Proofs.YtmjjedbdedemcaaDoor
open Go.RowKit Go.Shelf
set_option linter.unusedVariables false
set_option linter.unusedSimpArgs false
attribute [local go_sem] Oper.semAt_some

/-- What a round leaves alone. -/
structure KpC (n₀ : Nat) (A B : World) : Prop where
  bel : Below n₀ A B
  keep : ∀ (k : Nat) (cs : Array Value) (t : TypeId) (fr : Nat × Nat), A.heap[k]? = some (Obj.cells cs t fr) → t = 26 ∨ t = 3 → B.heap[k]? = some (Obj.cells cs t fr)
theorem KpC.trans {n₀ : Nat} {A B C : World} (h : KpC n₀ A B) (k : KpC n₀ B C) : KpC n₀ A C := ⟨h.bel.trans k.bel, fun i cs t fr hi ht => k.keep _ _ _ _ (h.keep _ _ _ _ hi ht) ht⟩
theorem KpC.put {n₀ : Nat} {w : World} (hn : n₀ ≤ w.heap.size) (W : World) (l : Nat) (o o' : Obj) (hl : w.heap.size ≤ l) (h : W.heap[l]? = some o) (hc : o.isCells = false) (hw : o.isWalk = false) : KpC n₀ W (W.putObj l o') :=
  ⟨belowK_b hn W l o o' hl h hc hw, fun k cs t fr hk _ => by
    have hne : k ≠ l := fun e => by rw [e, h] at hk; cases hk; cases hc
    exact (World.putObj_heap_other hne).trans hk⟩
/-- The first k pieces of so many samples: where each begins, and how many it has. -/
def pcs (len k : Nat) : List (Nat × Nat) := (List.range k).map (fun j => (120 * j, min 120 (len - 120 * j)))
theorem pcs_succ (len k : Nat) : pcs len (k + 1) = pcs len k ++ [(120 * k, min 120 (len - 120 * k))] := by simp [pcs, List.range_succ]
theorem pcs_len (len k : Nat) : (pcs len k).length = k := by simp [pcs]
/-- A piece of so many samples. -/
structure Pc (len : Nat) where
  i : Nat
  e : Nat
  ok : i + e ≤ len ∧ 1 ≤ e ∧ e ≤ 120
def Pc.two {len : Nat} (x : Pc len) : Nat × Nat := (x.i, x.e)
/-- All the pieces. -/
def Pcs (len : Nat) (xs : List (Pc len)) : Prop := ∃ k, xs.map Pc.two = pcs len k ∧ len ≤ 120 * k ∧ 120 * k < len + 120

set_option maxRecDepth 100000 in
set_option maxHeartbeats 4000000 in
theorem sChunk1_in (n : Nat) (hn : 1 ≤ n) (l B1 B2 n₀ b off len cap : Nat) (h0 : 0 < len) (hlc : len ≤ cap) (hcap : cap ≤ 9223372036854775807) (hl62 : len ≤ 4611686018427387904) (J Jx : List (Pc len) → World → Prop)
    (hY : ∀ pre (x : Pc len) W, J pre W → pre.length < len → YieldAt Fence.wide (n - 1) Tryd.prog l #[.slice (some ⟨b, off + x.i * 2, none⟩) x.e x.e] W fun e W' =>
      (e = .returned (.bool true) ∧ J (pre ++ [x]) W' ∧ KpC n₀ W W') ∨ (e = .returned (.bool false) ∧ Jx (pre ++ [x]) W'))
    (hJd : ∀ pre W, J pre W → J pre W.drew)
    (W : World) (hB1 : Boxed W B1 26 (.slice (some ⟨b, off, none⟩) len cap)) (hB2 : Boxed W B2 3 (.int .i64 120)) (hJ0 : J [] W) :
    CallsIn Fence.wide n Tryd.prog 28 #[.func (.yield l) #[] #[], .pointer (some ⟨B1, 0, none⟩), .pointer (some ⟨B2, 0, none⟩)] W fun e W' => (∃ v, e = .returned v) ∧
      ((∃ ys, Pcs len ys ∧ J ys W') ∨ (∃ pre, True ∧ Jx pre W')) := by
  replace hY := hide hY
  replace hJd := hide hJd
  replace hB1 := hide hB1
  replace hB2 := hide hB2
  replace hJ0 := hide hJ0
  refine callsIn_of_wp Tryd.func28 rfl trivial ?_ rfl
  simp only [Tryd.ntmps28, List.size_toArray, List.length_cons, List.length_nil, Nat.reduceAdd, Nat.reduceSub, Array.replicate_succ, Array.replicate_zero, List.push_toArray, List.append_toArray, List.nil_append, List.cons_append]
  gi_wp2
  gi_loopw [4, 5] (fun iv _ wr => ∃ (k i : Nat) (ys : List (Pc len)), 120 * k < len + 120 ∧ i = 120 * k ∧ iv = .int .i64 (i : Int) ∧ Hid (ys.map Pc.two = pcs len k) ∧ Hid (J ys wr) ∧ Hid (Boxed wr B1 26 (.slice (some ⟨b, off, none⟩) len cap)) ∧ Hid (Boxed wr B2 3 (.int .i64 120)))
    (fun iv _ _ => len + 120 - (intOf iv).toNat)
  case atStart => exact ⟨0, 0, [], by omega, rfl, rfl, (rfl : _ = _), hJ0, hB1, hB2⟩
  case round =>
    clear hB1 hB2 hJ0
    obtain ⟨k, i, ys, hk, hik, rfl, hys, Js, b1, b2⟩ := hrel
    have c1 := b1.out.cell
    have c2 := b2.out.cell
    by_cases hlt : i < len
    · have j1 : (i : Int) < (len : Int) := by omega
      obtain ⟨r, hr⟩ : ∃ r, len - i = r := ⟨_, rfl⟩
      obtain ⟨e, he⟩ : ∃ e, min 120 r = e := ⟨_, rfl⟩
      obtain ⟨ie, hie⟩ : ∃ ie, i + e = ie := ⟨_, rfl⟩
      obtain ⟨ad, had⟩ : ∃ ad, (if cap = i then some (⟨b, off, none⟩ : Addr) else some ⟨b, off + i * 2, none⟩) = ad := ⟨_, rfl⟩
      have RG := hide (fun v0 v3 v5 v6 v7 v8 v9 v10 v11 v12 v13 v14 v15 v16 v17 v18 v19 v20 v21 v22 v23 v24 v25 v26 v27 v28 v29 v30 Q => chunk_region n wr B1 B2 b off len cap i r e ad v0 v3 v5 v6 v7 v8 v9 v10 v11 v12 v13 v14 v15 v16 v17 v18 v19 v20 v21 v22 v23 v24 v25 v26 v27 v28 v29 v30 Q c1 c2 hlt hlc hcap hr he had)
      obtain ⟨x, hx1, hx2⟩ : ∃ x : Pc len, x.i = i ∧ x.e = e := ⟨⟨i, e, by omega⟩, rfl, rfl⟩
      have hnew : Hid ((ys ++ [x]).map Pc.two = pcs len (k + 1)) := by show _ = _; rw [List.map_append, hys.out, pcs_succ, ← hik, hr, he]; simp [Pc.two, hx1, hx2]
      have hyl : ys.length = k := by have := congrArg List.length hys.out; rwa [List.length_map, pcs_len] at this
      have d1 : wr.drew.cell? ⟨B1, 0, none⟩ = some (.slice (some ⟨b, off, none⟩) len cap) := c1
      have hYY := hY.out ys x wr.drew (hJd.out _ _ Js.out) (by omega)
      rw [hx1, hx2] at hYY
      replace hx1 := hide hx1
      replace hx2 := hide hx2
      replace hyl := hide hyl
      obtain ⟨fn, tmps, assign, body, hy', hR⟩ := hYY
      have q1 : (i : Int) + (e : Int) = (ie : Int) := by omega
      have q2 : ie - i = e := by omega
      have q3 : (ie : Int) ≤ (cap : Int) := by omega
      have q4 : (i : Int) ≤ (ie : Int) := by omega
      have q5 : ¬ ie = i := by omega
      have q6 : ¬ (i : Int) = (ie : Int) := by omega
      have q7 : ¬ i = ie := by omega
      have q8 : ¬ e = 0 := by omega
      replace hr := hide hr
      replace he := hide he
      replace hie := hide hie
      replace had := hide had
      replace hik := hide hik
      gi_wp2
      refine RG.out _ _ _ _ _ _ _ _ _ _ _ _ _ _ _ _ _ _ _ _ _ _ _ _ _ _ _ _ _ ?_
      clear RG c1 c2
      have e1 : Hid (Boxed wr.drew B1 26 (.slice (some ⟨b, off, none⟩) len cap)) := b1.out
      have e2 : Hid (Boxed wr.drew B2 3 (.int .i64 120)) := b2.out
      clear b1 b2
      generalize wr.drew = wd at *
      gi_wp2
      refine hR.mono ?_
      rintro en W3 (⟨rfl, hJ3, hk3⟩ | ⟨rfl, hJx3⟩)
      · have f1 : Boxed W3 B1 26 (.slice (some ⟨b, off, none⟩) len cap) := hk3.keep _ _ _ _ e1.out (.inl rfl)
        have f2 : Boxed W3 B2 3 (.int .i64 120) := hk3.keep _ _ _ _ e2.out (.inr rfl)
        have d2 := f2.cell
        obtain ⟨i1, hi1⟩ : ∃ i1, i + 120 = i1 := ⟨_, rfl⟩
        have q9 : (i : Int) + 120 = (i1 : Int) := by omega
        have Jn : Hid (J (ys ++ [x]) W3) := hJ3
        have hi2 : Hid (i1 = 120 * (k + 1)) := by show _ = _; have := hik.out; omega
        have hk2 : 120 * (k + 1) < len + 120 := by have := hik.out; omega
        have hm : Hid (i < i1) := by show i < i1; omega
        replace f1 := hide f1
        replace f2 := hide f2
        replace hi1 := hide hi1
        clear hk3 hJ3 hR hy' e1 e2 d1 Js q1 q2 q3 q4 q5 q6 q7 q8
        gi_wp2
        go_roundw
        case rel => exact ⟨k + 1, i1, ys ++ [x], hk2, hi2.out, rfl, hnew, Jn, f1, f2⟩
        case measure => have := hm.out; have := hi2.out; simp [intOf]; omega
      · clear hR hy'
        gi_wp2
        refine bodyPost_ret (results_none rfl _ _ _) rfl ?_
        exact ⟨⟨_, rfl⟩, .inr ⟨_, trivial, hJx3⟩⟩
    · have hle : (len : Int) ≤ (i : Int) := by omega
      gi_wp2
      go_end0
      exact ⟨⟨_, rfl⟩, .inl ⟨_, ⟨k, hys.out, by omega, hk⟩, Js.out⟩⟩
theorem sChunk1_nil (n : Nat) (l B1 B2 : Nat) (a : Option Addr) (cap : Nat) (J : List (Pc 0) → World → Prop) (W : World) (hB1 : W.cell? ⟨B1, 0, none⟩ = some (.slice a 0 cap)) (h0 : J [] W) :
    CallsIn Fence.wide n Tryd.prog 28 #[.func (.yield l) #[] #[], .pointer (some ⟨B1, 0, none⟩), .pointer (some ⟨B2, 0, none⟩)] W fun e W' => (∃ v, e = .returned v) ∧ J [] W' := by
  refine callsIn_of_wp Tryd.func28 rfl trivial ?_ rfl
  simp only [Tryd.ntmps28, List.size_toArray, List.length_cons, List.length_nil, Nat.reduceAdd, Nat.reduceSub, Array.replicate_succ, Array.replicate_zero, List.push_toArray, List.append_toArray, List.nil_append, List.cons_append]
  gi_wp2
  gi_loopw [4] (fun i wr => i = .int .i64 0 ∧ wr = W) (fun _ _ => 0)
  case atStart => exact ⟨rfl, rfl⟩
  case round =>
    obtain ⟨rfl, rfl⟩ := hrel
    gi_wp2
    go_end0
    exact ⟨⟨_, rfl⟩, h0⟩
/-- A place where a slice without samples may begin. -/
theorem sChunk_stops (n : Nat) (hn : 1 ≤ n) (B1 B2 n₀ b off len cap : Nat) (h0 : 0 < len) (hlc : len ≤ cap) (hcap : cap ≤ 9223372036854775807) (hl62 : len ≤ 4611686018427387904) (w : World) (hB1 : Boxed w B1 26 (.slice (some ⟨b, off, none⟩) len cap)) (hB2 : Boxed w B2 3 (.int .i64 120)) :
    SeqStopsK Fence.wide n Tryd.prog 28 #[.pointer (some ⟨B1, 0, none⟩), .pointer (some ⟨B2, 0, none⟩)] (fun x : Pc len => #[Value.slice (some ⟨b, off + x.i * 2, none⟩) x.e x.e]) (KpC n₀) (Pcs len) (fun _ => True) len w := fun l J Jx W hW hJa _ hY hJ0 =>
  sChunk1_in n hn l B1 B2 n₀ b off len cap h0 hlc hcap hl62 J Jx hY (fun pre W' hj => hJa pre W' W'.drew none hj ⟨rfl, rfl, rfl, Nat.le_refl _, fun _ _ _ => rfl⟩ (fun r e => by cases e)) W ((hW.block _ hB1.lt).trans hB1) ((hW.block _ hB2.lt).trans hB2) hJ0
theorem sChunk_stops0 (n : Nat) (B1 B2 n₀ cap : Nat) (a : Option Addr) (w : World) (hB1 : Boxed w B1 26 (.slice a 0 cap)) :
    SeqStopsK Fence.wide n Tryd.prog 28 #[.pointer (some ⟨B1, 0, none⟩), .pointer (some ⟨B2, 0, none⟩)] (fun x : Pc 0 => #[Value.slice (some ⟨0, 0 + x.i * 2, none⟩) x.e x.e]) (KpC n₀) (Pcs 0) (fun _ => True) 0 w := fun l J Jx W hW hJa _ hY hJ0 =>
  (sChunk1_nil n l B1 B2 a cap J W (Boxed.cell ((hW.block _ hB1.lt).trans hB1)) hJ0).mono fun e W' ⟨he, hj⟩ => ⟨he, .inl ⟨_, ⟨0, rfl, by omega, by omega⟩, hj⟩⟩
end Go.Proofs.YtmjjedbdedemcaaDoor
