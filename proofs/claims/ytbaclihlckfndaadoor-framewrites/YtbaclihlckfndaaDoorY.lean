/-
  Lists of bytes that are made one by one; the walk of laid.
-/
import Derived.Test.YtbaclihlckfndaaDoorX
namespace Go.Proofs.YtbaclihlckfndaaDoor
open Go.RowKit Go.Shelf
set_option linter.unusedVariables false

section
variable {w : World} {ops : Array Oper} {rest : List Oper} {o : Oper} {a : Act} {Q : Exit → Act → World → Prop} {K : Act → World → Prop} {E : Prop}
theorem run_app1 (w : World) (ty : TypeId) (base : Nat) (v : Value) (k : Nat) (xs : List Value) (hown : w.ownsRow base 24 1 v k xs)
    (g cap : Nat) (u : Value) (hc : w.cell? ⟨g, 0, none⟩ = some u) (hu : u.oneCell' = true) (hb : k + 1 ≤ 1099511627776) (hbase : base ≤ w.heap.size) :
    ∃ v' w', (Builtin.append_ #[22, 22] ty #[v, .slice (some ⟨g, 0, none⟩) 1 cap]).run Tryd.prog w = .ok v' w' ∧ w'.ownsRow base 24 1 v' (k + 1) (xs ++ [u]) ∧ w.grownBy w' v.ownBlock := by
  obtain ⟨i0, hi, hz0, hz1, hz2⟩ := info_parts24
  obtain ⟨v', w', hrun, r1, r2, r3⟩ := run_append_own (P := Tryd.prog) w base 22 ty 24 i0 (.slice none 0 0) 1 24 Tryd.underlying22 hi hz0 hz1 hz2 rfl (by decide) v k xs hown ⟨g, 0, none⟩ 1 cap [u] rfl
    (fun j u' hj => by
      cases j with
      | zero => simp at hj; subst hj; simpa [Addr.add] using hc
      | succ j => simp at hj) (fun u' hu' => by rw [List.mem_singleton.1 hu']; exact hu) (by unfold maxLen; omega) (by omega) hbase
  exact ⟨v', w', hrun, r1, r2⟩
/-- append of one slice, as one step of a region that draws. -/
theorem step_app1 (hgd : o.guard = none) (s x : Operand) (ho : o.op = .call { callee := .builtin .append, args := #[s, x], argTypes := #[22, 22] })
    (base : Nat) (v : Value) (k : Nat) (xs : List Value) (hs : a.eval s = v) (hown : w.ownsRow base 24 1 v k xs)
    (g cap : Nat) (u : Value) (hx : a.eval x = .slice (some ⟨g, 0, none⟩) 1 cap) (hc : w.cell? ⟨g, 0, none⟩ = some u) (hu : u.oneCell' = true)
    (hb : k + 1 ≤ 1099511627776) (hbase : base ≤ w.heap.size)
    (h : ∀ v' w', w'.ownsRow base 24 1 v' (k + 1) (xs ++ [u]) → w.grownBy w' v.ownBlock → K (a.put o.dst v') w') :
    if Region.wanted o (yielded ops a.tmps) = true then Oper.wp Tryd.prog o a w K Q else E := by
  have hw : Region.wanted o (yielded ops a.tmps) = true := by simp [Region.wanted, hgd]
  rw [if_pos hw]
  obtain ⟨v', w', hrun, r1, r2⟩ := run_app1 w o.type base v k xs hown g cap u hc hu hb hbase
  unfold Oper.wp
  simp [execOp, ho, resolve, invoke, builtin, hs, hx, hrun, Result.andThen]
  exact h v' w' r1 r2
theorem wpList_app1 (hgd : o.guard = none) (s x : Operand) (ho : o.op = .call { callee := .builtin .append, args := #[s, x], argTypes := #[22, 22] })
    (base : Nat) (v : Value) (k : Nat) (xs : List Value) (hs : a.eval s = v) (hown : w.ownsRow base 24 1 v k xs)
    (g cap : Nat) (u : Value) (hx : a.eval x = .slice (some ⟨g, 0, none⟩) 1 cap) (hc : w.cell? ⟨g, 0, none⟩ = some u) (hu : u.oneCell' = true)
    (hb : k + 1 ≤ 1099511627776) (hbase : base ≤ w.heap.size)
    (h : ∀ v' w', w'.ownsRow base 24 1 v' (k + 1) (xs ++ [u]) → w.grownBy w' v.ownBlock → wpList Tryd.prog ops Q rest (a.put o.dst v') w') : wpList Tryd.prog ops Q (o :: rest) a w := by
  refine wpList_plain hgd fun K hK' => ?_
  obtain ⟨v', w', hrun, r1, r2⟩ := run_app1 w o.type base v k xs hown g cap u hc hu hb hbase
  unfold Oper.wp
  simp [execOp, ho, resolve, invoke, builtin, hs, hx, hrun, Result.andThen]
  exact hK' _ _ (h v' w' r1 r2)
/-- The lesser of two numbers, as one step of a region that draws. -/
theorem step_min (hgd : o.guard = none) (x y : Operand) (ho : o.op = .call { callee := .builtin .min, args := #[x, y], argTypes := #[3, 3] }) (n c m : Nat) (hx : a.eval x = .int .i64 (n : Int)) (hy : a.eval y = .int .i64 (c : Int)) (hm : min n c = m)
    (h : K (a.put o.dst (.int .i64 (m : Int))) w) :
    if Region.wanted o (yielded ops a.tmps) = true then Oper.wp Tryd.prog o a w K Q else E := by
  have hw : Region.wanted o (yielded ops a.tmps) = true := by simp [Region.wanted, hgd]
  rw [if_pos hw]
  have e : (if c < n then (c : Int) else (n : Int)) = (m : Int) := by split <;> omega
  unfold Oper.wp
  simp [execOp, ho, resolve, invoke, builtin, hx, hy, run_min_int2, Result.andThen]
  rw [e, Oper.upon_value]
  exact h
/-- append of bytes that lie in memory, as one step of a region that draws. -/
theorem step_app (hgd : o.guard = none) (s x : Operand) (ho : o.op = .call { callee := .builtin .append, args := #[s, x], argTypes := #[24, 24] })
    (base : Nat) (v : Value) (k : Nat) (l : List Int) (hs : a.eval s = v) (hown : w.ownsRow base 5 1 v k (l.map (Value.int .u8)))
    (ax : Option Addr) (len cap : Nat) (lx : List Int) (hx : a.eval x = .slice ax len cap) (hh : Has w ax len cap lx)
    (hb : k + len ≤ 4398046511104) (hbase : base ≤ w.heap.size)
    (h : ∀ v' w', w'.ownsRow base 5 1 v' (k + len) ((l ++ lx).map (Value.int .u8)) → w.grownBy w' v.ownBlock → K (a.put o.dst v') w') :
    if Region.wanted o (yielded ops a.tmps) = true then Oper.wp Tryd.prog o a w K Q else E := by
  have hw : Region.wanted o (yielded ops a.tmps) = true := by simp [Region.wanted, hgd]
  rw [if_pos hw]
  obtain ⟨i0, hi, hz0, hz1, hz2⟩ := info_parts info5
  cases ax with
  | none =>
    have hc := hh.nil rfl
    have hl := hh.le
    subst hc
    obtain rfl : len = 0 := by omega
    obtain rfl : lx = [] := List.eq_nil_of_length_eq_zero hh.hlen
    have hrun := run_append_owned_none (P := Tryd.prog) (w := w) base 24 o.type 5 i0 1 Tryd.underlying24 hi v k (l.map (Value.int .u8)) hown
    unfold Oper.wp
    simp [execOp, ho, resolve, invoke, builtin, hs, hx, hrun, Result.andThen]
    exact h v w (by simpa using hown) (World.grownBy.refl w _)
  | some ad =>
    obtain ⟨v', w', hrun, r1, r2, r3⟩ := run_append_own (P := Tryd.prog) w base 24 o.type 5 i0 (.int .u8 0) 1 1 Tryd.underlying24 hi hz0 hz1 hz2 rfl (by decide) v k (l.map (Value.int .u8)) hown ad len cap (lx.map (Value.int .u8)) (by simp [hh.hlen])
      (fun j u hj => by
        by_cases hp : 0 < len
        · obtain ⟨b, off, e1, e2, e3⟩ := cells_of_has hh hp
          cases e1
          exact e3 j u hj
        · obtain rfl : lx = [] := List.eq_nil_of_length_eq_zero (by have := hh.hlen; omega)
          simp at hj) (ints_oneCell _ _) (by unfold maxLen; omega) (by omega) hbase
    unfold Oper.wp
    simp [execOp, ho, resolve, invoke, builtin, hs, hx, hrun, Result.andThen]
    exact h v' w' (by simpa using r1) r2
end

/-- A row of slices of one's own, and the records in it. -/
structure Outs (n0 : Nat) (W : World) (v : Value) (vs : List Value) (recs : List (List Int)) : Prop where
  row : W.ownsRow n0 24 1 v recs.length vs
  recs : RecsIn W n0 W.heap.size vs recs
theorem Outs.drew {n0 : Nat} {W : World} {v : Value} {vs : List Value} {recs : List (List Int)} (h : Outs n0 W v vs recs) : Outs n0 W.drew v vs recs := ⟨h.row, ⟨h.recs.len, h.recs.rows⟩⟩
theorem Outs.nil (W : World) (n0 : Nat) (h : n0 ≤ W.heap.size) : Outs n0 (W.alloc (.cells #[] 24)) (.slice (some ⟨W.heap.size, 0, none⟩) 0 0) [] [] :=
  ⟨⟨rfl, .inr ⟨W.heap.size, 0, #[], rfl, h, heap_alloc_new W _, Nat.le_refl _, by unfold maxLen; omega, rfl, rfl⟩⟩, ⟨rfl, fun i hi => by simp at hi⟩⟩
theorem Outs.below {n0 : Nat} {W W' : World} {v : Value} {vs : List Value} {recs : List (List Int)} (h : Outs n0 W v vs recs) (hb : Below W.heap.size W W') : Outs n0 W' v vs recs :=
  ⟨h.row.kept (below_grown hb) (Classical.em _), (h.recs.kept (below_grown hb) (fun k e => by cases e)).mono hb.size⟩
theorem Outs.add {n0 : Nat} {W W1 W2 : World} {v u v' : Value} {vs : List Value} {recs : List (List Int)} {x : List Int} (h : Outs n0 W v vs recs) (hn : n0 ≤ W.heap.size) (hb : Below W.heap.size W W1)
    (hu : W1.ownsRow W.heap.size 5 1 u x.length (x.map (Value.int .u8))) (ob : Obj) (hO : W2.ownsRow n0 24 1 v' (recs.length + 1) (vs ++ [u])) (hG : (W1.alloc ob).grownBy W2 v.ownBlock) : Outs n0 W2 v' (vs ++ [u]) (recs ++ [x]) := by
  have h1 := (h.below hb).below ((Below.refl _ W1).alloc (Nat.le_refl _) ob)
  have hu1 := hu.alloc ob
  have z1 : W1.heap.size ≤ (W1.alloc ob).heap.size := by simp
  have hb1 := hb.size
  have hlt := hu.lt
  generalize W1.alloc ob = W3 at *
  have bl : ∀ k, v.ownBlock = some k → ∀ cs fr, W3.heap[k]? ≠ some (Obj.cells cs 5 fr) := fun k e cs fr hc => by
    rcases h1.row.2 with ⟨e2, _⟩ | ⟨g, cap, cur, e2, hbg, hg, _⟩
    · rw [e2] at e; simp [Value.ownBlock] at e
    · rw [e2] at e
      obtain rfl : g = k := by simpa [Value.ownBlock] using e
      rw [hg] at hc; cases hc
  have z2 := hG.size
  refine ⟨by simpa using hO, ((h1.recs.kept hG (fun k e => .inr (bl k e))).mono z2).snoc (ownsRow_mono (hu1.kept hG ?_) hn) (fun k e => ?_)⟩
  · rcases hu1.2 with ⟨e2, _⟩ | ⟨g, cap, cur, e2, hbg, hg, _⟩
    · exact .inl (by rw [e2]; rfl)
    · refine .inr fun e => ?_
      have e3 : u.ownBlock = some g := by rw [e2]; rfl
      exact bl g (e.symm.trans e3) _ _ hg
  · have := (hlt k e).2
    omega
theorem Outs.hasL {n0 : Nat} {W : World} {v : Value} {vs : List Value} {recs : List (List Int)} (h : Outs n0 W v vs recs) (hb : ∀ x ∈ recs, Byts x) : ∃ a cap, v = .slice a recs.length cap ∧ HasL W a recs.length cap recs := hasL_of_recs h.row h.recs hb

def few8 (ls : List (List Int)) : List (List Int) := (ls.take 8).map (List.take 600)
theorem few8_take {ls : List (List Int)} {k : Nat} (hk : k < ls.length) (h8 : k < 8) : few8 (ls.take (k + 1)) = few8 (ls.take k) ++ [(ls.getD k []).take 600] := by
  unfold few8
  rw [List.take_take, List.take_take, Nat.min_eq_right (by omega), Nat.min_eq_right (by omega), List.take_add_one, List.getElem?_eq_getElem hk, List.map_append]
  simp only [Option.toList_some, List.map_cons, List.map_nil, List.getD, List.getElem?_eq_getElem hk, Option.getD_some]
theorem few8_len (ls : List (List Int)) : (few8 ls).length = min 8 ls.length := by simp [few8]
theorem few8_byts {ls : List (List Int)} (h : ∀ x ∈ ls, Byts x) : ∀ x ∈ few8 ls, Byts x := by
  intro x hx
  simp only [few8, List.mem_map] at hx
  obtain ⟨y, hy, rfl⟩ := hx
  exact (h y (List.mem_of_mem_take hy)).take _
theorem few8_short {ls : List (List Int)} : ∀ x ∈ few8 ls, x.length ≤ 600 := by
  intro x hx
  simp only [few8, List.mem_map] at hx
  obtain ⟨y, hy, rfl⟩ := hx
  simp; omega
theorem few8_end {ls : List (List Int)} {k : Nat} (h : k = ls.length ∨ k = 8) : few8 (ls.take k) = few8 ls := by
  unfold few8
  rcases h with rfl | rfl
  · rw [List.take_length]
  · rw [List.take_take, Nat.min_self]

/-- What laid answers. -/
def Laid (w : World) (x : Int) (ls : List (List Int)) (e : Ending) (w' : World) : Prop :=
  ∃ am cm ab nb cb, e = .returned (.tuple #[.int .i64 (amongOf x 1000000 : Nat), .slice am (few8 ls).length cm, .slice ab nb cb]) ∧ amongOf x 1000000 < 1000000 ∧ HasL w' am (few8 ls).length cm (few8 ls) ∧ Has w' ab nb cb (secs (cutAll (amongOf x 1000000) (few8 ls))) ∧ Below w.heap.size w w'

theorem need_short {ls : List (List Int)} (h : ∀ x ∈ ls, x.length ≤ 600) : needL ls ≤ 3 * ls.length := by
  induction ls with
  | nil => simp [needL]
  | cons x ls ih =>
    have h1 := ih (fun y hy => h y (by simp [hy]))
    have h2 := h x (by simp)
    simp only [needL, List.length_cons]
    unfold needR
    omega
theorem few8_need (ls : List (List Int)) : needL (few8 ls) ≤ 24 := by
  have h := need_short (few8_short (ls := ls))
  have := few8_len ls
  omega

set_option maxRecDepth 100000 in
set_option maxHeartbeats 4000000 in
theorem laid_any (w : World) (x : Int) (hx : -9223372036854775808 ≤ x ∧ x ≤ 9223372036854775807) (a : Option Addr) (len cap : Nat) (ls : List (List Int)) (h : HasL w a len cap ls) (ht : Tab w) :
    Calls Tryd.prog 21 #[.int .i64 x, .slice a len cap] w (Laid w x ls) := by
  have ham := hide (among_any x 1000000 hx (by omega) (by omega) w)
  have hlen := h.hlen
  have hby := hide h.byts
  have hcells := hide h.cells
  have hcap := h.capb
  have hle := h.le
  unfold maxLen at hcap
  replace ht := hide ht
  clear h
  go_enter Tryd.func21, Tryd.ntmps21
  go_wp2_with (go_at_call 22; refine ham.out.mono ?_; rintro e w1 ⟨rfl, hlt, hw1⟩; replace hw1 := hw1.symm; subst hw1)
  generalize hN : amongOf x 1000000 = N at hlt
  go_loopw [7, 8] (fun v i wr => ∃ (k : Nat) (vs : List Value) (ao : Option Addr) (co : Nat), k ≤ len ∧ k ≤ 8 ∧ v = .slice ao k co ∧ i = .int .i64 k ∧ Hid (Outs w.heap.size wr (.slice ao k co) vs (few8 (ls.take k))) ∧ Hid (Below w.heap.size w wr)) (fun _ i _ => len - (intOf i).toNat)
  case atStart => exact ⟨0, [], _, _, Nat.zero_le _, Nat.zero_le _, rfl, rfl, Outs.nil w _ (Nat.le_refl _), (Below.refl _ w).alloc (Nat.le_refl _) _⟩
  case round =>
    obtain ⟨k, vs, ao, co, hk, hk8, rfl, rfl, hO, hB⟩ := hrel
    by_cases hkl : k < len ∧ k < 8
    · obtain ⟨b, off, rfl, hbl, hcl⟩ := hcells.out (by omega)
      obtain ⟨ai, ni, ci, hc, hHi⟩ := hcl k hkl.1
      have i1 : (k : Int) < len := by omega
      have i2 : (k : Int) < 8 := by omega
      have c0 : wr.drew.cell? ⟨b, off + k, none⟩ = some (.slice ai ni ci) := (hB.out.cell (p := ⟨b, off + k, none⟩) hbl).trans hc
      have hni := hHi.hlen
      have hnc := hHi.le
      have hcm := hHi.capb
      unfold maxLen at hcm
      have hbd := hB.out.size
      have H1 : Hid (Has wr.drew ai (min ni 600) ci ((ls.getD k []).take 600)) := by
        have := (hHi.kept hB.out (Nat.le_refl _)).drew.front (min ni 600) (by omega)
        rwa [show (ls.getD k []).take (min ni 600) = (ls.getD k []).take 600 by rw [← hni, List.take_eq_take_iff]; omega] at this
      have hnew : Hid (few8 (ls.take (k + 1)) = few8 (ls.take k) ++ [(ls.getD k []).take 600]) := few8_take (by omega) hkl.2
      have hOd := hide hO.out.drew
      have hkf : Hid ((few8 (ls.take k)).length = k) := by show _ = _; rw [few8_len, List.length_take]; omega
      have hrow : Hid (wr.drew.ownsRow w.heap.size 24 1 (.slice ao k co) k vs) := by have := hOd.out.row; rwa [hkf.out] at this
      obtain ⟨m, hm, hm2⟩ : ∃ m, min ni 600 = m ∧ m ≤ 600 := ⟨_, rfl, by omega⟩
      rw [hm] at H1
      have key : Hid (∀ (W1 : World), Below wr.drew.heap.size wr.drew W1 → ∀ (ob : Obj) (W2 : World) (u v' : Value), W1.ownsRow wr.drew.heap.size 5 1 u ((ls.getD k []).take 600).length (((ls.getD k []).take 600).map (Value.int .u8)) → W2.ownsRow w.heap.size 24 1 v' (k + 1) (vs ++ [u]) → (W1.alloc ob).grownBy W2 (Value.slice ao k co).ownBlock → Outs w.heap.size W2 v' (vs ++ [u]) (few8 (ls.take (k + 1))) ∧ Below w.heap.size w W2) := by
        intro W1 hb1 ob W2 u v' hu hO2 hG
        refine ⟨?_, ?_⟩
        · rw [hnew.out]
          exact hOd.out.add hbd hb1 hu ob (by rw [hkf.out]; exact hO2) hG
        · have B1 : Below w.heap.size w W1 := (hB.out.trans ((Below.ofdrew hb1).mono hbd))
          exact (B1.alloc B1.size ob).grown hG (Nat.le_trans B1.size (by simp)) (fun q e => (hrow.out.lt q e).1)
      have hcall : Hid (Calls Tryd.prog 15 #[.slice ai m ci] wr.drew (Ret wr.drew ((ls.getD k []).take 600))) := bytes_any _ ai m ci _ H1.out (by omega)
      generalize (ls.getD k []).take 600 = X at H1 hnew key hcall
      clear hHi hcl
      replace hc := hide hc
      replace hbd := hide hbd
      have hbd2 : w.heap.size ≤ wr.drew.heap.size := hbd.out
      have j2 : (m : Int) ≤ ci := by omega
      replace hm := hide hm
      by_cases g0 : ci = 0
      · obtain rfl : m = 0 := by omega
        obtain rfl : ni = 0 := by omega
        subst g0
        go_wp2_with fail
        go_region_held3 (fun w' => w'.cell? ⟨b, off + k, none⟩ = some (.slice ai 0 0)) (first | (exact c0) | (exact c2) | (exact cell_alloc_l _ c2) | (exact c4)) (first
          | (refine step_min rfl (.tmp 33) (.const (.int .i64 600)) rfl 0 600 0 rfl rfl hm.out ?_)
          | (go_at_call 15; refine hcall.out.mono ?_; rintro e W1 ⟨a1, n1, c1, rfl, H2, B2, R2⟩; have c2 := (B2.cell (p := ⟨b, off + k, none⟩) (Nat.lt_of_lt_of_le hbl hbd2)).trans c0; have el := H2.hlen; subst el)
          | (refine step_app1 rfl (.tmp 24) (.tmp 37) rfl w.heap.size _ k vs rfl (hrow.out.kept (below_grown (B2.alloc B2.size _)) (Classical.em _)) W1.heap.size 1 _ rfl (cell_new_l W1 _ 24).1 rfl (by omega) (by have := B2.size; simp; omega) ?_; intro v' W2 O2 G2; obtain ⟨F1, F2⟩ := key.out _ B2 _ _ _ _ R2 O2 G2; have c4 := (F2.cell (p := ⟨b, off + k, none⟩) hbl).trans hc.out; obtain ⟨a3, c3, e3⟩ := slice_of_owns O2; subst e3))
        clear c0 c2 c4 O2 G2 B2 R2 H2
        replace F1 := hide F1
        replace F2 := hide F2
        go_wp2_with fail
        go_roundw
        case rel => exact ⟨k + 1, _, a3, c3, by omega, by omega, rfl, by go_num, F1, F2⟩
        case measure => simp [intOf]; omega
      · go_wp2_with fail
        go_region_held3 (fun w' => w'.cell? ⟨b, off + k, none⟩ = some (.slice ai ni ci)) (first | (exact c0) | (exact c2) | (exact cell_alloc_l _ c2) | (exact c4)) (first
          | (refine step_min rfl (.tmp 33) (.const (.int .i64 600)) rfl ni 600 m rfl rfl hm.out ?_)
          | (go_at_call 15; refine hcall.out.mono ?_; rintro e W1 ⟨a1, n1, c1, rfl, H2, B2, R2⟩; have c2 := (B2.cell (p := ⟨b, off + k, none⟩) (Nat.lt_of_lt_of_le hbl hbd2)).trans c0; have el := H2.hlen; subst el)
          | (refine step_app1 rfl (.tmp 24) (.tmp 37) rfl w.heap.size _ k vs rfl (hrow.out.kept (below_grown (B2.alloc B2.size _)) (Classical.em _)) W1.heap.size 1 _ rfl (cell_new_l W1 _ 24).1 rfl (by omega) (by have := B2.size; simp; omega) ?_; intro v' W2 O2 G2; obtain ⟨F1, F2⟩ := key.out _ B2 _ _ _ _ R2 O2 G2; have c4 := (F2.cell (p := ⟨b, off + k, none⟩) hbl).trans hc.out; obtain ⟨a3, c3, e3⟩ := slice_of_owns O2; subst e3))
        clear c0 c2 c4 O2 G2 B2 R2 H2
        replace F1 := hide F1
        replace F2 := hide F2
        go_wp2_with fail
        go_roundw
        case rel => exact ⟨k + 1, _, a3, c3, by omega, by omega, rfl, by go_num, F1, F2⟩
        case measure => simp [intOf]; omega
    · have hend : k = ls.length ∨ k = 8 := by omega
      have hf := hide (few8_end hend)
      have hO2 := hO.out
      rw [hf.out] at hO2
      have hfb := few8_byts hby.out
      obtain ⟨a2, c2, e2, H2⟩ := hO2.hasL hfb
      have hlen8 := few8_len ls
      have hwr := hide (write_any wr N a2 _ c2 (few8 ls) H2 (by omega) (fun x hx => by have := few8_short x hx; omega) (by have := few8_need ls; omega) (by omega) (ht.out.kept hB.out ht.out.pos))
      obtain ⟨rfl, e3, rfl⟩ : ao = a2 ∧ k = (few8 ls).length ∧ co = c2 := by cases e2; exact ⟨rfl, rfl, rfl⟩
      replace H2 := hide H2
      rw [← e3] at H2 hwr
      replace e3 := hide e3
      clear hO hO2 hfb e2
      by_cases h8 : k < len
      · obtain rfl : k = 8 := by omega
        have i1 : (8 : Int) < len := by omega
        go_wp2_with (go_at_call 9; refine hwr.out.mono ?_; rintro e w4 ⟨a4, n4, c4, rfl, H4, B4⟩; replace H4 := hide H4; replace B4 := hide B4)
        go_ret3
        exact ⟨ao, co, a4, n4, c4, by rw [hN, ← e3.out]; rfl, by rw [hN]; exact hlt, by rw [← e3.out]; exact H2.out.kept B4.out (Nat.le_refl _), by rw [hN]; exact H4.out, hB.out.trans (B4.out.mono hB.out.size)⟩
      · obtain rfl : k = len := by omega
        go_wp2_with (go_at_call 9; refine hwr.out.mono ?_; rintro e w4 ⟨a4, n4, c4, rfl, H4, B4⟩; replace H4 := hide H4; replace B4 := hide B4)
        go_ret3
        exact ⟨ao, co, a4, n4, c4, by rw [hN, ← e3.out]; rfl, by rw [hN]; exact hlt, by rw [← e3.out]; exact H2.out.kept B4.out (Nat.le_refl _), by rw [hN]; exact H4.out, hB.out.trans (B4.out.mono hB.out.size)⟩
end Go.Proofs.YtbaclihlckfndaaDoor
