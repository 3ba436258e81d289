/-
  The walk of Compare.
-/
import Derived.Test.YtfkjdibhnabkaaaD
import Derived.Laws.ResultCell
namespace Go.Proofs.Ytfkjdibhnabkaaa
open Go.RowKit Go.Shelf
set_option linter.unusedVariables false
attribute [local go_sem] Oper.semAt_some

theorem box_own {W W' : World} {B : Nat} {t : TypeId} {cs : Array Value} {row : Option Nat} (h : W.heap[B]? = some (.cells cs t (0, 0))) (hg : W.grownBy W' row) (hr : ∀ r, row = some r → ∃ o : Obj, W.heap[r]? = some o ∧ o.isCells = false) : W'.heap[B]? = some (.cells cs t (0, 0)) := by
  refine (hg.block B (Array.getElem?_eq_some_iff.1 h).1 (fun e => ?_)).trans h
  obtain ⟨o, ho, hc⟩ := hr B e.symm
  rw [h] at ho; cases ho; cases hc
theorem pairs_stops (n : Nat) (hn : 1 ≤ n) (B1 B2 : Nat) (a a' : Option Addr) (len cap len' cap' : Nat) (L M : List Lab) (w1 : World) (hL : HasB w1 a len cap L) (hM : HasB w1 a' len' cap' M)
    (hB1 : w1.cell? ⟨B1, 0, none⟩ = some (.slice a len cap)) (hB2 : w1.cell? ⟨B2, 0, none⟩ = some (.slice a' len' cap')) :
    SeqStopsK Fence.wide n Try.prog 30 #[.pointer (some ⟨B1, 0, none⟩), .pointer (some ⟨B2, 0, none⟩)] pairV (Below w1.heap.size) (fun ys => ys = L.zip M) (fun pre => pre <+: L.zip M) (L.zip M).length w1 :=
  fun l J Jx W hW hA _ hY h0 => pairs1_in n hn l B1 B2 w1.heap.size a a' len cap len' cap' L M w1 hL hM rfl hB1 hB2 J Jx W hA hY hW h0
theorem cell_new_l (W : World) (v : Value) (t : TypeId) : (W.alloc (.cells #[v] t)).cell? ⟨W.heap.size, 0, none⟩ = some v ∧ (W.alloc (.cells #[v] t)).frozen? ⟨W.heap.size, 0, none⟩ = false :=
  ⟨(Boxed.new W t v).cell, (Boxed.new W t v).frozen⟩
theorem cell_alloc_l {W : World} {a : Addr} {v : Value} (o : Obj) (h : W.cell? a = some v) : (W.alloc o).cell? a = some v := cell_kept h (World.grownBy_alloc W o none) (fun r e => by cases e)

theorem noDefer (ops : Array Oper) (h : (ops.toList.all fun o => match o.op with | .defer _ => false | _ => true) = true) : ∀ (j : Nat) (o : Oper), ops[j]? = some o → ∀ c, o.op ≠ .defer c := by
  intro j o ho c hc
  have hm : o ∈ ops.toList := by
    have := Array.mem_of_getElem? ho
    simpa using this
  have := List.all_eq_true.1 h o hm
  rw [hc] at this
  cases this
theorem if_wanted {o : Oper} {A E : Prop} (hg : o.guard = none) {ys} (h : A) : if Region.wanted o ys = true then A else E := by rw [if_pos (by simp [Region.wanted, hg])]; exact h
theorem pair_cells {W : World} {g : Nat} {x y : Value} {t : TypeId} (h : W.heap[g]? = some (.cells #[x, y] t (0, 0))) : W.cell? ⟨g, 0, none⟩ = some x ∧ W.cell? ⟨g, 1, none⟩ = some y :=
  ⟨by simp [cell_of_row _ _ _ _ _ _ h], by simp [cell_of_row _ _ _ _ _ _ h]⟩
/-- Sets of which all pairs are the same are told apart by their lengths; else by the first pair that differs. -/
theorem c3_zip {L : List Lab} : ∀ {M : List Lab}, (∀ x ∈ L.zip M, l3 x.1 x.2 = 0) → c3 L M = i3 (L.length : Int) (M.length : Int) := by
  induction L with
  | nil => intro M _; cases M <;> simp [c3, lexL, i3]
  | cons x L ih =>
    intro M h
    cases M with
    | nil => simp [c3, lexL, i3]; omega
    | cons y M =>
      have h1 := h (x, y) (by simp)
      have h2 := ih (M := M) (fun z hz => h z (by simp [hz]))
      simp only [c3, lexL, or2] at h2 ⊢
      rw [if_pos h1, h2]
      unfold i3
      simp
theorem c3_first {L : List Lab} : ∀ {M : List Lab} {pre : List (Lab × Lab)} {x : Lab × Lab}, (pre ++ [x]) <+: L.zip M → (∀ y ∈ pre, l3 y.1 y.2 = 0) → l3 x.1 x.2 ≠ 0 → c3 L M = l3 x.1 x.2 := by
  induction L with
  | nil => intro M pre x h; simp at h
  | cons a L ih =>
    intro M pre x h h0 hx
    cases M with
    | nil => simp at h
    | cons b M =>
      simp only [List.zip_cons_cons] at h
      cases pre with
      | nil =>
        simp only [List.nil_append, List.cons_prefix_cons] at h
        obtain ⟨rfl, _⟩ := h
        simp only [c3, lexL, or2]
        rw [if_neg hx]
      | cons p pre =>
        simp only [List.cons_append, List.cons_prefix_cons] at h
        obtain ⟨rfl, h2⟩ := h
        have h1 := h0 (a, b) (by simp)
        have h3 := ih (M := M) h2 (fun y hy => h0 y (by simp [hy])) hx
        simp only [c3, lexL, or2] at h3 ⊢
        rw [if_pos h1, h3]

set_option maxRecDepth 100000 in
set_option maxHeartbeats 8000000 in
theorem compare_in (n : Nat) (hn : 5 ≤ n) (a a' : Option Addr) (len cap len' cap' : Nat) (L M : List Lab) (w : World) (hL : HasB w a len cap L) (hM : HasB w a' len' cap' M) :
    CallsIn Fence.wide n Try.prog 12 #[.slice a len cap, .slice a' len' cap'] w fun e w' => e = .returned (.int .i64 (c3 L M)) ∧ Below w.heap.size w w' := by
  have h1 : 1 ≤ n := by omega
  have hll := hL.hlen
  have hlm := hM.hlen
  replace hL := hide hL
  replace hM := hide hM
  refine callsIn_of_wp_marks Try.func12 rfl trivial ?_ rfl
  simp only [Try.ntmps12, List.size_toArray, List.length_cons, List.length_nil, Nat.reduceAdd, Nat.reduceSub, Array.replicate_succ, Array.replicate_zero, List.push_toArray, List.append_toArray, List.nil_append, List.cons_append]
  gi_wp2
  refine ⟨trivial, (pairs_in (n - 1) _ _ _ _ _ _ _).mono ?_⟩
  rintro e w2 ⟨rfl, hw2⟩
  gi_wp2
  have b0 := Boxed.new w 3 (.int .i64 0)
  have c1 := cell_new_l (w.alloc (.cells #[.int .i64 0] 3)) (.slice a len cap) 23
  have c2 := cell_new_l ((w.alloc (.cells #[.int .i64 0] 3)).alloc (.cells #[.slice a len cap] 23)) (.slice a' len' cap') 23
  simp only [World.size_alloc] at c1 c2
  have BB : Below w.heap.size w (((w.alloc (.cells #[.int .i64 0] 3)).alloc (.cells #[.slice a len cap] 23)).alloc (.cells #[.slice a' len' cap'] 23)) := (((Below.refl _ w).alloc (Nat.le_refl _) _).alloc (by simp) _).alloc (by simp; omega) _
  have hstops := pairs_stops (n - 1) (by omega) (w.heap.size + 1) (w.heap.size + 1 + 1) a a' len cap len' cap' L M _ (hL.out.kept BB (Nat.le_refl _)) (hM.out.kept BB (Nat.le_refl _)) (cell_alloc_l _ c1.1) c2.1
  have b0' : Boxed (((w.alloc (.cells #[.int .i64 0] 3)).alloc (.cells #[.slice a len cap] 23)).alloc (.cells #[.slice a' len' cap'] 23)) w.heap.size 3 (.int .i64 0) := (b0.alloc _).alloc _
  have zz : w.heap.size < (((w.alloc (.cells #[.int .i64 0] 3)).alloc (.cells #[.slice a len cap] 23)).alloc (.cells #[.slice a' len' cap'] 23)).heap.size := by simp; omega
  clear c1 c2 hw2 b0
  generalize (((w.alloc (.cells #[.int .i64 0] 3)).alloc (.cells #[.slice a len cap] 23)).alloc (.cells #[.slice a' len' cap'] 23)) = w3 at b0' BB hstops zz ⊢
  refine wpIn_rangeFunc_ownH rfl h1 (gf := 30) (lb := #[.pointer (some ⟨w.heap.size + 1, 0, none⟩), .pointer (some ⟨w.heap.size + 1 + 1, 0, none⟩)]) rfl trivial (enters_of Try.func30 (by kernel_rfl) rfl)
    hstops belowK_t (belowK_b (Nat.le_refl _)) (Below.refl _ _) (fun _ => rfl)
    (fun pre W => ((∀ y ∈ pre, l3 y.1 y.2 = 0) ∧ Boxed W w.heap.size 3 (.int .i64 0)) ∧ Below w3.heap.size w3 W)
    (fun c pre W => c = .ret ∧ (∃ pre' x, pre = pre' ++ [x] ∧ (∀ y ∈ pre', l3 y.1 y.2 = 0) ∧ l3 x.1 x.2 ≠ 0 ∧ Boxed W w.heap.size 3 (.int .i64 (l3 x.1 x.2))) ∧ Below w.heap.size w W)
    (OwnFrom.and (fun pre W W' row hs hg hr => ⟨hs.1, box_own hs.2 hg (fun r e => (hr r e).2)⟩) (ownFrom_below (Nat.le_refl _) (Nat.le_refl _)))
    (fun c pre W W' row hs hg hr => by
      obtain ⟨e, ⟨pre', x, h2, h3, h4, h5⟩, h6⟩ := hs
      exact ⟨e, ⟨pre', x, h2, h3, h4, box_own h5 hg (fun r e => (hr r e).2)⟩, (ownFrom_below (β := Unit) (w₀ := w) (Nat.le_refl _) (show w.heap.size ≤ w3.heap.size by omega)) () W W' row h6 hg hr⟩)
    ⟨⟨(fun y hy => by cases hy), b0'⟩, Below.refl _ _⟩
    (fun x act W' => ∃ g1 g2, act = { tmps := #[Value.slice a len cap, Value.slice a' len' cap', undef, undef, Value.pointer (some ⟨w.heap.size, 0, none⟩), .pointer (some ⟨g1, 0, none⟩), .pointer (some ⟨g2, 0, none⟩), undef, Value.slice a len cap, Value.slice a' len' cap', Value.func (Fn.func 30) #[] #[Value.pointer (some ⟨w.heap.size + 1, 0, none⟩), Value.pointer (some ⟨w.heap.size + 1 + 1, 0, none⟩)], labV x.1, labV x.2, undef, undef, undef, undef, undef, undef, undef, undef, undef, undef, undef, undef, undef, undef, undef, undef, undef, undef, undef, undef], defers := [] } ∧ W'.heap[g1]? = some (.cells #[.string x.1.1, .string x.1.2] 39 (0, 0)) ∧ W'.heap[g2]? = some (.cells #[.string x.2.1, .string x.2.2] 39 (0, 0)))
    (fun x act _ W W' row hs hg hr => by
      obtain ⟨g1, g2, e, hb1, hb2⟩ := hs
      exact ⟨g1, g2, e, box_own hb1 hg (fun r e => (hr r e).2), box_own hb2 hg (fun r e => (hr r e).2)⟩) ?assign ?body ?done ?stop
  case assign =>
    rintro l pre x W K ⟨⟨hz, hb⟩, hB⟩ hK
    have hKK := hide (hK)
    clear hK
    have hsz := hB.size
    simp only [pairV, labV]
    gi_wp2
    exact hKK.out _ _ (((KeepsOthers.alloc W _).trans (KeepsOthers.alloc _ _)).from _) (((Below.refl _ W).alloc hsz _).alloc (by simp; omega) _) ⟨⟨hz, (hb.alloc _).alloc _⟩, (hB.alloc hsz _).alloc (by simp; omega) _⟩ ⟨W.heap.size, W.heap.size + 1, rfl, (Below.heap_alloc _ _ _ (by simp)).trans (heap_alloc_new W _), by have := heap_alloc_new (W.alloc (.cells #[.string x.1.1, .string x.1.2] 39)) (.cells #[.string x.2.1, .string x.2.2] 39); rwa [World.size_alloc] at this⟩
  case body =>
    rintro l pre x a2 W hwl hrec ⟨⟨hz, hb⟩, hB⟩ ⟨g1, g2, rfl, hg1, hg2⟩ hlen
    have hsz := hB.size
    have y0 := (pair_cells hg1).1
    have y1 := (pair_cells hg1).2
    have y2 := (pair_cells hg2).1
    have y3 := (pair_cells hg2).2
    replace hz := hide hz
    replace hb := hide hb
    replace hB := hide hB
    clear hg1 hg2
    simp only [labV]
    gi_wp2
    (try simp only [Act.put, List.setIfInBounds_toArray, List.set_cons_zero, List.set_cons_succ])
    refine wpIn_region_any (by kernel_rfl) ?_
    change wpAnyIn _ _ _ _ _ _ _ _ _ (World.drew W)
    refine anyIn_inRound l (noDefer _ (by kernel_rfl)) _ _ _ _ ?_
    have x0 : W.drew.cell? ⟨g1, 0, none⟩ = some (.string x.1.1) := y0
    have x1 : W.drew.cell? ⟨g1, 1, none⟩ = some (.string x.1.2) := y1
    have x2 : W.drew.cell? ⟨g2, 0, none⟩ = some (.string x.2.1) := y2
    have x3 : W.drew.cell? ⟨g2, 1, none⟩ = some (.string x.2.2) := y3
    have B5 : Hid (Below w3.heap.size w3 W.drew) := hB.out.drew
    have hb5 : Hid (Boxed W.drew w.heap.size 3 (.int .i64 0)) := hb.out
    have M5 : Hid (KeepsOthers W W.drew) := KeepsOthers.drew W
    have N5 : Hid (Below w3.heap.size W W.drew) := (Below.refl _ W).drew
    generalize hW5 : W.drew = W5 at x0 x1 x2 x3 B5 hb5 M5 N5 ⊢
    replace hW5 := hide hW5
    clear y0 y1 y2 y3
    refine wpAnyIn_take (i := 0) (oi := { dst := some 13, op := Op.fieldAddr 39 (Operand.tmp 5) 0, type := 0, pos := "label.go:39", after := #[], guard := none }) (v := .pointer (some ⟨g1, 0, none⟩)) rfl rfl (by kernel_rfl) (by kernel_rfl) (by kernel_rfl) (fun _ _ _ h => h) ⟨Or.inl ⟨by rfl, ?_⟩, fun _ => rfl⟩ ?_
    · intro w; go_simp
    simp only [Act.put, List.setIfInBounds_toArray, List.set_cons_zero, List.set_cons_succ]
    refine wpAnyIn_take (i := 2) (oi := { dst := some 15, op := Op.fieldAddr 39 (Operand.tmp 6) 0, type := 0, pos := "label.go:39", after := #[], guard := none }) (v := .pointer (some ⟨g2, 0, none⟩)) rfl rfl (by kernel_rfl) (by kernel_rfl) (by kernel_rfl) (fun _ _ _ h => h) ⟨Or.inl ⟨by rfl, ?_⟩, fun _ => rfl⟩ ?_
    · intro w; go_simp
    simp only [Act.put, List.setIfInBounds_toArray, List.set_cons_zero, List.set_cons_succ]
    refine wpAnyIn_take (i := 5) (oi := { dst := some 18, op := Op.fieldAddr 39 (Operand.tmp 5) 1, type := 0, pos := "label.go:39", after := #[], guard := none }) (v := .pointer (some ⟨g1, 1, none⟩)) rfl rfl (by kernel_rfl) (by kernel_rfl) (by kernel_rfl) (fun _ _ _ h => h) ⟨Or.inl ⟨by rfl, ?_⟩, fun _ => rfl⟩ ?_
    · intro w; go_simp
    simp only [Act.put, List.setIfInBounds_toArray, List.set_cons_zero, List.set_cons_succ]
    refine wpAnyIn_take (i := 7) (oi := { dst := some 20, op := Op.fieldAddr 39 (Operand.tmp 6) 1, type := 0, pos := "label.go:39", after := #[], guard := none }) (v := .pointer (some ⟨g2, 1, none⟩)) rfl rfl (by kernel_rfl) (by kernel_rfl) (by kernel_rfl) (fun _ _ _ h => h) ⟨Or.inl ⟨by rfl, ?_⟩, fun _ => rfl⟩ ?_
    · intro w; go_simp
    simp only [Act.put, List.setIfInBounds_toArray, List.set_cons_zero, List.set_cons_succ]
    refine wpAnyIn_ready (rs := [1, 3, 6, 8]) (by kernel_rfl) (by simp) ?_
    refine AllReadyIn.cons (o := { dst := some 14, op := Op.load 9 (Operand.tmp 13), type := 9, pos := "label.go:39", after := #[{ on := 0, ground := Ground.data }], guard := none }) rfl (fun K0 hK0 => ?_) ?_
    · go_simp
      refine hK0 _ _ ?_
      clear hK0 K0
      (try simp only [Act.put, List.setIfInBounds_toArray, List.set_cons_zero, List.set_cons_succ])
      refine wpAnyIn_ready (rs := [3, 6, 8]) (by kernel_rfl) (by simp) ?_
      refine AllReadyIn.cons (o := { dst := some 16, op := Op.load 9 (Operand.tmp 15), type := 9, pos := "label.go:39", after := #[{ on := 2, ground := Ground.data }], guard := none }) rfl (fun K0 hK0 => ?_) ?_
      · go_simp
        refine hK0 _ _ ?_
        clear hK0 K0
        (try simp only [Act.put, List.setIfInBounds_toArray, List.set_cons_zero, List.set_cons_succ])
        refine wpAnyIn_ready (rs := [4, 6, 8]) (by kernel_rfl) (by simp) ?_
        refine AllReadyIn.cons (o := { dst := some 17, op := Op.call { callee := Callee.value (Operand.func 21), args := #[Operand.tmp 14, Operand.tmp 16], argTypes := #[9, 9] }, type := 3, pos := "label.go:39", after := #[{ on := 1, ground := Ground.data }, { on := 3, ground := Ground.data }], guard := none }) rfl (fun K0 hK0 => ?_) ?_
        · go_simp
          refine ⟨trivial, fun _ => by omega, (callsIn_wide.2 (ahead_any _ _ _)).mono ?_⟩
          rintro e W6 ⟨rfl, hW6⟩
          replace hW6 := hW6.symm
          subst hW6
          refine hK0 _ _ ?_
          clear hK0 K0
          (try simp only [Act.put, List.setIfInBounds_toArray, List.set_cons_zero, List.set_cons_succ])
          refine wpAnyIn_ready (rs := [6, 8]) (by kernel_rfl) (by simp) ?_
          refine AllReadyIn.cons (o := { dst := some 19, op := Op.load 9 (Operand.tmp 18), type := 9, pos := "label.go:39", after := #[{ on := 5, ground := Ground.data }], guard := none }) rfl (fun K0 hK0 => ?_) ?_
          · go_simp
            refine hK0 _ _ ?_
            clear hK0 K0
            (try simp only [Act.put, List.setIfInBounds_toArray, List.set_cons_zero, List.set_cons_succ])
            refine wpAnyIn_ready (rs := [8]) (by kernel_rfl) (by simp) ?_
            refine AllReadyIn.cons (o := { dst := some 21, op := Op.load 9 (Operand.tmp 20), type := 9, pos := "label.go:39", after := #[{ on := 7, ground := Ground.data }], guard := none }) rfl (fun K0 hK0 => ?_) ?_
            · go_simp
              refine hK0 _ _ ?_
              clear hK0 K0
              (try simp only [Act.put, List.setIfInBounds_toArray, List.set_cons_zero, List.set_cons_succ])
              refine wpAnyIn_ready (rs := [9]) (by kernel_rfl) (by simp) ?_
              refine AllReadyIn.cons (o := { dst := some 22, op := Op.call { callee := Callee.value (Operand.func 21), args := #[Operand.tmp 19, Operand.tmp 21], argTypes := #[9, 9] }, type := 3, pos := "label.go:39", after := #[{ on := 6, ground := Ground.data }, { on := 8, ground := Ground.data }, { on := 4, ground := Ground.chain }], guard := none }) rfl (fun K0 hK0 => ?_) ?_
              · go_simp
                refine ⟨trivial, fun _ => by omega, (callsIn_wide.2 (ahead_any _ _ _)).mono ?_⟩
                rintro e W6 ⟨rfl, hW6⟩
                replace hW6 := hW6.symm
                subst hW6
                refine hK0 _ _ ?_
                clear hK0 K0
                (try simp only [Act.put, List.setIfInBounds_toArray, List.set_cons_zero, List.set_cons_succ])
                refine wpAnyIn_ready (rs := [10]) (by kernel_rfl) (by simp) ?_
                refine AllReadyIn.cons (o := { dst := some 23, op := Op.buildSlice 52 2 #[(0, Operand.tmp 17), (1, Operand.tmp 22)], type := 52, pos := "label.go:39", after := #[{ on := 4, ground := Ground.data }, { on := 9, ground := Ground.data }], guard := none }) rfl (fun K0 hK0 => ?_) ?_
                · go_simp
                  refine hK0 _ _ ?_
                  clear hK0 K0
                  (try simp only [Act.put, List.setIfInBounds_toArray, List.set_cons_zero, List.set_cons_succ])
                  refine wpAnyIn_ready (rs := [11]) (by kernel_rfl) (by simp) ?_
                  refine AllReadyIn.cons (o := { dst := some 24, op := Op.call { callee := Callee.value (Operand.func 20), args := #[Operand.tmp 23], argTypes := #[52] }, type := 3, pos := "label.go:39", after := #[{ on := 10, ground := Ground.data }, { on := 9, ground := Ground.chain }], guard := none }) rfl (fun K0 hK0 => ?_) ?_
                  · go_simp
                    refine ⟨trivial, fun _ => by omega, (callsIn_wide.2 (or_any (s3 x.1.1 x.2.1) (s3 x.1.2 x.2.2) W5.heap.size _ (cells2 W5 _ _ 3).1 (cells2 W5 _ _ 3).2)).mono ?_⟩
                    rintro e W6 ⟨rfl, hW6⟩
                    replace hW6 := hW6.symm
                    subst hW6
                    refine hK0 _ _ ?_
                    clear hK0 K0
                    (try simp only [Act.put, List.setIfInBounds_toArray, List.set_cons_zero, List.set_cons_succ])
                    refine wpAnyIn_ready (rs := [12]) (by kernel_rfl) (by simp) ?_
                    refine AllReadyIn.cons (o := { dst := some 7, op := Op.assign (Operand.tmp 24), type := 3, pos := "label.go:39", after := #[{ on := 11, ground := Ground.data }, { on := 11, ground := Ground.chain }, { on := 0, ground := Ground.phase }, { on := 1, ground := Ground.phase }, { on := 2, ground := Ground.phase }, { on := 3, ground := Ground.phase }, { on := 4, ground := Ground.phase }, { on := 5, ground := Ground.phase }, { on := 6, ground := Ground.phase }, { on := 7, ground := Ground.phase }, { on := 8, ground := Ground.phase }, { on := 9, ground := Ground.phase }, { on := 10, ground := Ground.phase }, { on := 11, ground := Ground.phase }], guard := none }) rfl (fun K0 hK0 => ?_) ?_
                    · go_simp
                      refine hK0 _ _ ?_
                      clear hK0 K0
                      (try simp only [Act.put, List.setIfInBounds_toArray, List.set_cons_zero, List.set_cons_succ])
                      refine wpAnyIn_done (by kernel_rfl) ?_ _
                      have b6 := hb5.out.alloc (.cells #[.int .i64 (s3 x.1.1 x.2.1), .int .i64 (s3 x.1.2 x.2.2)] 3)
                      have B6 := hide (B5.out.alloc B5.out.size (.cells #[.int .i64 (s3 x.1.1 x.2.1), .int .i64 (s3 x.1.2 x.2.2)] 3))
                      have N6 := hide (N5.out.alloc B5.out.size (.cells #[.int .i64 (s3 x.1.1 x.2.1), .int .i64 (s3 x.1.2 x.2.2)] 3))
                      have M6 := hide (M5.out.trans (KeepsOthers.alloc W5 (.cells #[.int .i64 (s3 x.1.1 x.2.1), .int .i64 (s3 x.1.2 x.2.2)] 3)))
                      generalize W5.alloc (.cells #[.int .i64 (s3 x.1.1 x.2.1), .int .i64 (s3 x.1.2 x.2.2)] 3) = W6 at b6 B6 N6 M6 ⊢
                      have q6 := b6.cell
                      have f6 := b6.frozen
                      replace b6 := hide b6
                      clear x0 x1 x2 x3 hW5 B5 N5 M5 hb5
                      rcases Decidable.em (or2 (s3 x.1.1 x.2.1) (s3 x.1.2 x.2.2) = 0) with hq | hq
                      · gi_wp2
                        exact ⟨M6.out.from _, N6.out, ⟨fun y hy => by
                          rcases List.mem_append.1 hy with h | h
                          · exact hz.out y h
                          · rw [List.mem_singleton.1 h]; exact hq, b6.out⟩, B6.out⟩
                      · gi_wp2
                        exact ⟨(M6.out.trans (KeepsOthers.setCell _ _ _)).from _, rfl, ⟨pre, x, rfl, hz.out, hq, b6.out.set _⟩, (BB.trans (B6.out.mono (Nat.le_of_lt zz))).setCell (Nat.le_refl _) _⟩
                    exact AllReadyIn.nil
                  exact AllReadyIn.nil
                exact AllReadyIn.nil
              exact AllReadyIn.nil
            exact AllReadyIn.nil
          refine AllReadyIn.cons (o := { dst := some 21, op := Op.load 9 (Operand.tmp 20), type := 9, pos := "label.go:39", after := #[{ on := 7, ground := Ground.data }], guard := none }) rfl (fun K0 hK0 => ?_) ?_
          · go_simp
            refine hK0 _ _ ?_
            clear hK0 K0
            (try simp only [Act.put, List.setIfInBounds_toArray, List.set_cons_zero, List.set_cons_succ])
            refine wpAnyIn_ready (rs := [6]) (by kernel_rfl) (by simp) ?_
            refine AllReadyIn.cons (o := { dst := some 19, op := Op.load 9 (Operand.tmp 18), type := 9, pos := "label.go:39", after := #[{ on := 5, ground := Ground.data }], guard := none }) rfl (fun K0 hK0 => ?_) ?_
            · go_simp
              refine hK0 _ _ ?_
              clear hK0 K0
              (try simp only [Act.put, List.setIfInBounds_toArray, List.set_cons_zero, List.set_cons_succ])
              refine wpAnyIn_ready (rs := [9]) (by kernel_rfl) (by simp) ?_
              refine AllReadyIn.cons (o := { dst := some 22, op := Op.call { callee := Callee.value (Operand.func 21), args := #[Operand.tmp 19, Operand.tmp 21], argTypes := #[9, 9] }, type := 3, pos := "label.go:39", after := #[{ on := 6, ground := Ground.data }, { on := 8, ground := Ground.data }, { on := 4, ground := Ground.chain }], guard := none }) rfl (fun K0 hK0 => ?_) ?_
              · go_simp
                refine ⟨trivial, fun _ => by omega, (callsIn_wide.2 (ahead_any _ _ _)).mono ?_⟩
                rintro e W6 ⟨rfl, hW6⟩
                replace hW6 := hW6.symm
                subst hW6
                refine hK0 _ _ ?_
                clear hK0 K0
                (try simp only [Act.put, List.setIfInBounds_toArray, List.set_cons_zero, List.set_cons_succ])
                refine wpAnyIn_ready (rs := [10]) (by kernel_rfl) (by simp) ?_
                refine AllReadyIn.cons (o := { dst := some 23, op := Op.buildSlice 52 2 #[(0, Operand.tmp 17), (1, Operand.tmp 22)], type := 52, pos := "label.go:39", after := #[{ on := 4, ground := Ground.data }, { on := 9, ground := Ground.data }], guard := none }) rfl (fun K0 hK0 => ?_) ?_
                · go_simp
                  refine hK0 _ _ ?_
                  clear hK0 K0
                  (try simp only [Act.put, List.setIfInBounds_toArray, List.set_cons_zero, List.set_cons_succ])
                  refine wpAnyIn_ready (rs := [11]) (by kernel_rfl) (by simp) ?_
                  refine AllReadyIn.cons (o := { dst := some 24, op := Op.call { callee := Callee.value (Operand.func 20), args := #[Operand.tmp 23], argTypes := #[52] }, type := 3, pos := "label.go:39", after := #[{ on := 10, ground := Ground.data }, { on := 9, ground := Ground.chain }], guard := none }) rfl (fun K0 hK0 => ?_) ?_
                  · go_simp
                    refine ⟨trivial, fun _ => by omega, (callsIn_wide.2 (or_any (s3 x.1.1 x.2.1) (s3 x.1.2 x.2.2) W5.heap.size _ (cells2 W5 _ _ 3).1 (cells2 W5 _ _ 3).2)).mono ?_⟩
                    rintro e W6 ⟨rfl, hW6⟩
                    replace hW6 := hW6.symm
                    subst hW6
                    refine hK0 _ _ ?_
                    clear hK0 K0
                    (try simp only [Act.put, List.setIfInBounds_toArray, List.set_cons_zero, List.set_cons_succ])
                    refine wpAnyIn_ready (rs := [12]) (by kernel_rfl) (by simp) ?_
                    refine AllReadyIn.cons (o := { dst := some 7, op := Op.assign (Operand.tmp 24), type := 3, pos := "label.go:39", after := #[{ on := 11, ground := Ground.data }, { on := 11, ground := Ground.chain }, { on := 0, ground := Ground.phase }, { on := 1, ground := Ground.phase }, { on := 2, ground := Ground.phase }, { on := 3, ground := Ground.phase }, { on := 4, ground := Ground.phase }, { on := 5, ground := Ground.phase }, { on := 6, ground := Ground.phase }, { on := 7, ground := Ground.phase }, { on := 8, ground := Ground.phase }, { on := 9, ground := Ground.phase }, { on := 10, ground := Ground.phase }, { on := 11, ground := Ground.phase }], guard := none }) rfl (fun K0 hK0 => ?_) ?_
                    · go_simp
                      refine hK0 _ _ ?_
                      clear hK0 K0
                      (try simp only [Act.put, List.setIfInBounds_toArray, List.set_cons_zero, List.set_cons_succ])
                      refine wpAnyIn_done (by kernel_rfl) ?_ _
                      have b6 := hb5.out.alloc (.cells #[.int .i64 (s3 x.1.1 x.2.1), .int .i64 (s3 x.1.2 x.2.2)] 3)
                      have B6 := hide (B5.out.alloc B5.out.size (.cells #[.int .i64 (s3 x.1.1 x.2.1), .int .i64 (s3 x.1.2 x.2.2)] 3))
                      have N6 := hide (N5.out.alloc B5.out.size (.cells #[.int .i64 (s3 x.1.1 x.2.1), .int .i64 (s3 x.1.2 x.2.2)] 3))
                      have M6 := hide (M5.out.trans (KeepsOthers.alloc W5 (.cells #[.int .i64 (s3 x.1.1 x.2.1), .int .i64 (s3 x.1.2 x.2.2)] 3)))
                      generalize W5.alloc (.cells #[.int .i64 (s3 x.1.1 x.2.1), .int .i64 (s3 x.1.2 x.2.2)] 3) = W6 at b6 B6 N6 M6 ⊢
                      have q6 := b6.cell
                      have f6 := b6.frozen
                      replace b6 := hide b6
                      clear x0 x1 x2 x3 hW5 B5 N5 M5 hb5
                      rcases Decidable.em (or2 (s3 x.1.1 x.2.1) (s3 x.1.2 x.2.2) = 0) with hq | hq
                      · gi_wp2
                        exact ⟨M6.out.from _, N6.out, ⟨fun y hy => by
                          rcases List.mem_append.1 hy with h | h
                          · exact hz.out y h
                          · rw [List.mem_singleton.1 h]; exact hq, b6.out⟩, B6.out⟩
                      · gi_wp2
                        exact ⟨(M6.out.trans (KeepsOthers.setCell _ _ _)).from _, rfl, ⟨pre, x, rfl, hz.out, hq, b6.out.set _⟩, (BB.trans (B6.out.mono (Nat.le_of_lt zz))).setCell (Nat.le_refl _) _⟩
                    exact AllReadyIn.nil
                  exact AllReadyIn.nil
                exact AllReadyIn.nil
              exact AllReadyIn.nil
            exact AllReadyIn.nil
          exact AllReadyIn.nil
        refine AllReadyIn.cons (o := { dst := some 19, op := Op.load 9 (Operand.tmp 18), type := 9, pos := "label.go:39", after := #[{ on := 5, ground := Ground.data }], guard := none }) rfl (fun K0 hK0 => ?_) ?_
        · go_simp
          refine hK0 _ _ ?_
          clear hK0 K0
          (try simp only [Act.put, List.setIfInBounds_toArray, List.set_cons_zero, List.set_cons_succ])
          refine wpAnyIn_ready (rs := [4, 8]) (by kernel_rfl) (by simp) ?_
          refine AllReadyIn.cons (o := { dst := some 17, op := Op.call { callee := Callee.value (Operand.func 21), args := #[Operand.tmp 14, Operand.tmp 16], argTypes := #[9, 9] }, type := 3, pos := "label.go:39", after := #[{ on := 1, ground := Ground.data }, { on := 3, ground := Ground.data }], guard := none }) rfl (fun K0 hK0 => ?_) ?_
          · go_simp
            refine ⟨trivial, fun _ => by omega, (callsIn_wide.2 (ahead_any _ _ _)).mono ?_⟩
            rintro e W6 ⟨rfl, hW6⟩
            replace hW6 := hW6.symm
            subst hW6
            refine hK0 _ _ ?_
            clear hK0 K0
            (try simp only [Act.put, List.setIfInBounds_toArray, List.set_cons_zero, List.set_cons_succ])
            refine wpAnyIn_ready (rs := [8]) (by kernel_rfl) (by simp) ?_
            refine AllReadyIn.cons (o := { dst := some 21, op := Op.load 9 (Operand.tmp 20), type := 9, pos := "label.go:39", after := #[{ on := 7, ground := Ground.data }], guard := none }) rfl (fun K0 hK0 => ?_) ?_
            · go_simp
              refine hK0 _ _ ?_
              clear hK0 K0
              (try simp only [Act.put, List.setIfInBounds_toArray, List.set_cons_zero, List.set_cons_succ])
              refine wpAnyIn_ready (rs := [9]) (by kernel_rfl) (by simp) ?_
              refine AllReadyIn.cons (o := { dst := some 22, op := Op.call { callee := Callee.value (Operand.func 21), args := #[Operand.tmp 19, Operand.tmp 21], argTypes := #[9, 9] }, type := 3, pos := "label.go:39", after := #[{ on := 6, ground := Ground.data }, { on := 8, ground := Ground.data }, { on := 4, ground := Ground.chain }], guard := none }) rfl (fun K0 hK0 => ?_) ?_
              · go_simp
                refine ⟨trivial, fun _ => by omega, (callsIn_wide.2 (ahead_any _ _ _)).mono ?_⟩
                rintro e W6 ⟨rfl, hW6⟩
                replace hW6 := hW6.symm
                subst hW6
                refine hK0 _ _ ?_
                clear hK0 K0
                (try simp only [Act.put, List.setIfInBounds_toArray, List.set_cons_zero, List.set_cons_succ])
                refine wpAnyIn_ready (rs := [10]) (by kernel_rfl) (by simp) ?_
                refine AllReadyIn.cons (o := { dst := some 23, op := Op.buildSlice 52 2 #[(0, Operand.tmp 17), (1, Operand.tmp 22)], type := 52, pos := "label.go:39", after := #[{ on := 4, ground := Ground.data }, { on := 9, ground := Ground.data }], guard := none }) rfl (fun K0 hK0 => ?_) ?_
                · go_simp
                  refine hK0 _ _ ?_
                  clear hK0 K0
                  (try simp only [Act.put, List.setIfInBounds_toArray, List.set_cons_zero, List.set_cons_succ])
                  refine wpAnyIn_ready (rs := [11]) (by kernel_rfl) (by simp) ?_
                  refine AllReadyIn.cons (o := { dst := some 24, op := Op.call { callee := Callee.value (Operand.func 20), args := #[Operand.tmp 23], argTypes := #[52] }, type := 3, pos := "label.go:39", after := #[{ on := 10, ground := Ground.data }, { on := 9, ground := Ground.chain }], guard := none }) rfl (fun K0 hK0 => ?_) ?_
                  · go_simp
                    refine ⟨trivial, fun _ => by omega, (callsIn_wide.2 (or_any (s3 x.1.1 x.2.1) (s3 x.1.2 x.2.2) W5.heap.size _ (cells2 W5 _ _ 3).1 (cells2 W5 _ _ 3).2)).mono ?_⟩
                    rintro e W6 ⟨rfl, hW6⟩
                    replace hW6 := hW6.symm
                    subst hW6
                    refine hK0 _ _ ?_
                    clear hK0 K0
                    (try simp only [Act.put, List.setIfInBounds_toArray, List.set_cons_zero, List.set_cons_succ])
                    refine wpAnyIn_ready (rs := [12]) (by kernel_rfl) (by simp) ?_
                    refine AllReadyIn.cons (o := { dst := some 7, op := Op.assign (Operand.tmp 24), type := 3, pos := "label.go:39", after := #[{ on := 11, ground := Ground.data }, { on := 11, ground := Ground.chain }, { on := 0, ground := Ground.phase }, { on := 1, ground := Ground.phase }, { on := 2, ground := Ground.phase }, { on := 3, ground := Ground.phase }, { on := 4, ground := Ground.phase }, { on := 5, ground := Ground.phase }, { on := 6, ground := Ground.phase }, { on := 7, ground := Ground.phase }, { on := 8, ground := Ground.phase }, { on := 9, ground := Ground.phase }, { on := 10, ground := Ground.phase }, { on := 11, ground := Ground.phase }], guard := none }) rfl (fun K0 hK0 => ?_) ?_
                    · go_simp
                      refine hK0 _ _ ?_
                      clear hK0 K0
                      (try simp only [Act.put, List.setIfInBounds_toArray, List.set_cons_zero, List.set_cons_succ])
                      refine wpAnyIn_done (by kernel_rfl) ?_ _
                      have b6 := hb5.out.alloc (.cells #[.int .i64 (s3 x.1.1 x.2.1), .int .i64 (s3 x.1.2 x.2.2)] 3)
                      have B6 := hide (B5.out.alloc B5.out.size (.cells #[.int .i64 (s3 x.1.1 x.2.1), .int .i64 (s3 x.1.2 x.2.2)] 3))
                      have N6 := hide (N5.out.alloc B5.out.size (.cells #[.int .i64 (s3 x.1.1 x.2.1), .int .i64 (s3 x.1.2 x.2.2)] 3))
                      have M6 := hide (M5.out.trans (KeepsOthers.alloc W5 (.cells #[.int .i64 (s3 x.1.1 x.2.1), .int .i64 (s3 x.1.2 x.2.2)] 3)))
                      generalize W5.alloc (.cells #[.int .i64 (s3 x.1.1 x.2.1), .int .i64 (s3 x.1.2 x.2.2)] 3) = W6 at b6 B6 N6 M6 ⊢
                      have q6 := b6.cell
                      have f6 := b6.frozen
                      replace b6 := hide b6
                      clear x0 x1 x2 x3 hW5 B5 N5 M5 hb5
                      rcases Decidable.em (or2 (s3 x.1.1 x.2.1) (s3 x.1.2 x.2.2) = 0) with hq | hq
                      · gi_wp2
                        exact ⟨M6.out.from _, N6.out, ⟨fun y hy => by
                          rcases List.mem_append.1 hy with h | h
                          · exact hz.out y h
                          · rw [List.mem_singleton.1 h]; exact hq, b6.out⟩, B6.out⟩
                      · gi_wp2
                        exact ⟨(M6.out.trans (KeepsOthers.setCell _ _ _)).from _, rfl, ⟨pre, x, rfl, hz.out, hq, b6.out.set _⟩, (BB.trans (B6.out.mono (Nat.le_of_lt zz))).setCell (Nat.le_refl _) _⟩
                    exact AllReadyIn.nil
                  exact AllReadyIn.nil
                exact AllReadyIn.nil
              exact AllReadyIn.nil
            exact AllReadyIn.nil
          refine AllReadyIn.cons (o := { dst := some 21, op := Op.load 9 (Operand.tmp 20), type := 9, pos := "label.go:39", after := #[{ on := 7, ground := Ground.data }], guard := none }) rfl (fun K0 hK0 => ?_) ?_
          · go_simp
            refine hK0 _ _ ?_
            clear hK0 K0
            (try simp only [Act.put, List.setIfInBounds_toArray, List.set_cons_zero, List.set_cons_succ])
            refine wpAnyIn_ready (rs := [4]) (by kernel_rfl) (by simp) ?_
            refine AllReadyIn.cons (o := { dst := some 17, op := Op.call { callee := Callee.value (Operand.func 21), args := #[Operand.tmp 14, Operand.tmp 16], argTypes := #[9, 9] }, type := 3, pos := "label.go:39", after := #[{ on := 1, ground := Ground.data }, { on := 3, ground := Ground.data }], guard := none }) rfl (fun K0 hK0 => ?_) ?_
            · go_simp
              refine ⟨trivial, fun _ => by omega, (callsIn_wide.2 (ahead_any _ _ _)).mono ?_⟩
              rintro e W6 ⟨rfl, hW6⟩
              replace hW6 := hW6.symm
              subst hW6
              refine hK0 _ _ ?_
              clear hK0 K0
              (try simp only [Act.put, List.setIfInBounds_toArray, List.set_cons_zero, List.set_cons_succ])
              refine wpAnyIn_ready (rs := [9]) (by kernel_rfl) (by simp) ?_
              refine AllReadyIn.cons (o := { dst := some 22, op := Op.call { callee := Callee.value (Operand.func 21), args := #[Operand.tmp 19, Operand.tmp 21], argTypes := #[9, 9] }, type := 3, pos := "label.go:39", after := #[{ on := 6, ground := Ground.data }, { on := 8, ground := Ground.data }, { on := 4, ground := Ground.chain }], guard := none }) rfl (fun K0 hK0 => ?_) ?_
              · go_simp
                refine ⟨trivial, fun _ => by omega, (callsIn_wide.2 (ahead_any _ _ _)).mono ?_⟩
                rintro e W6 ⟨rfl, hW6⟩
                replace hW6 := hW6.symm
                subst hW6
                refine hK0 _ _ ?_
                clear hK0 K0
                (try simp only [Act.put, List.setIfInBounds_toArray, List.set_cons_zero, List.set_cons_succ])
                refine wpAnyIn_ready (rs := [10]) (by kernel_rfl) (by simp) ?_
                refine AllReadyIn.cons (o := { dst := some 23, op := Op.buildSlice 52 2 #[(0, Operand.tmp 17), (1, Operand.tmp 22)], type := 52, pos := "label.go:39", after := #[{ on := 4, ground := Ground.data }, { on := 9, ground := Ground.data }], guard := none }) rfl (fun K0 hK0 => ?_) ?_
                · go_simp
                  refine hK0 _ _ ?_
                  clear hK0 K0
                  (try simp only [Act.put, List.setIfInBounds_toArray, List.set_cons_zero, List.set_cons_succ])
                  refine wpAnyIn_ready (rs := [11]) (by kernel_rfl) (by simp) ?_
                  refine AllReadyIn.cons (o := { dst := some 24, op := Op.call { callee := Callee.value (Operand.func 20), args := #[Operand.tmp 23], argTypes := #[52] }, type := 3, pos := "label.go:39", after := #[{ on := 10, ground := Ground.data }, { on := 9, ground := Ground.chain }], guard := none }) rfl (fun K0 hK0 => ?_) ?_
                  · go_simp
                    refine ⟨trivial, fun _ => by omega, (callsIn_wide.2 (or_any (s3 x.1.1 x.2.1) (s3 x.1.2 x.2.2) W5.heap.size _ (cells2 W5 _ _ 3).1 (cells2 W5 _ _ 3).2)).mono ?_⟩
                    rintro e W6 ⟨rfl, hW6⟩
                    replace hW6 := hW6.symm
                    subst hW6
                    refine hK0 _ _ ?_
                    clear hK0 K0
                    (try simp only [Act.put, List.setIfInBounds_toArray, List.set_cons_zero, List.set_cons_succ])
                    refine wpAnyIn_ready (rs := [12]) (by kernel_rfl) (by simp) ?_
                    refine AllReadyIn.cons (o := { dst := some 7, op := Op.assign (Operand.tmp 24), type := 3, pos := "label.go:39", after := #[{ on := 11, ground := Ground.data }, { on := 11, ground := Ground.chain }, { on := 0, ground := Ground.phase }, { on := 1, ground := Ground.phase }, { on := 2, ground := Ground.phase }, { on := 3, ground := Ground.phase }, { on := 4, ground := Ground.phase }, { on := 5, ground := Ground.phase }, { on := 6, ground := Ground.phase }, { on := 7, ground := Ground.phase }, { on := 8, ground := Ground.phase }, { on := 9, ground := Ground.phase }, { on := 10, ground := Ground.phase }, { on := 11, ground := Ground.phase }], guard := none }) rfl (fun K0 hK0 => ?_) ?_
                    · go_simp
                      refine hK0 _ _ ?_
                      clear hK0 K0
                      (try simp only [Act.put, List.setIfInBounds_toArray, List.set_cons_zero, List.set_cons_succ])
                      refine wpAnyIn_done (by kernel_rfl) ?_ _
                      have b6 := hb5.out.alloc (.cells #[.int .i64 (s3 x.1.1 x.2.1), .int .i64 (s3 x.1.2 x.2.2)] 3)
                      have B6 := hide (B5.out.alloc B5.out.size (.cells #[.int .i64 (s3 x.1.1 x.2.1), .int .i64 (s3 x.1.2 x.2.2)] 3))
                      have N6 := hide (N5.out.alloc B5.out.size (.cells #[.int .i64 (s3 x.1.1 x.2.1), .int .i64 (s3 x.1.2 x.2.2)] 3))
                      have M6 := hide (M5.out.trans (KeepsOthers.alloc W5 (.cells #[.int .i64 (s3 x.1.1 x.2.1), .int .i64 (s3 x.1.2 x.2.2)] 3)))
                      generalize W5.alloc (.cells #[.int .i64 (s3 x.1.1 x.2.1), .int .i64 (s3 x.1.2 x.2.2)] 3) = W6 at b6 B6 N6 M6 ⊢
                      have q6 := b6.cell
                      have f6 := b6.frozen
                      replace b6 := hide b6
                      clear x0 x1 x2 x3 hW5 B5 N5 M5 hb5
                      rcases Decidable.em (or2 (s3 x.1.1 x.2.1) (s3 x.1.2 x.2.2) = 0) with hq | hq
                      · gi_wp2
                        exact ⟨M6.out.from _, N6.out, ⟨fun y hy => by
                          rcases List.mem_append.1 hy with h | h
                          · exact hz.out y h
                          · rw [List.mem_singleton.1 h]; exact hq, b6.out⟩, B6.out⟩
                      · gi_wp2
                        exact ⟨(M6.out.trans (KeepsOthers.setCell _ _ _)).from _, rfl, ⟨pre, x, rfl, hz.out, hq, b6.out.set _⟩, (BB.trans (B6.out.mono (Nat.le_of_lt zz))).setCell (Nat.le_refl _) _⟩
                    exact AllReadyIn.nil
                  exact AllReadyIn.nil
                exact AllReadyIn.nil
              exact AllReadyIn.nil
            exact AllReadyIn.nil
          exact AllReadyIn.nil
        refine AllReadyIn.cons (o := { dst := some 21, op := Op.load 9 (Operand.tmp 20), type := 9, pos := "label.go:39", after := #[{ on := 7, ground := Ground.data }], guard := none }) rfl (fun K0 hK0 => ?_) ?_
        · go_simp
          refine hK0 _ _ ?_
          clear hK0 K0
          (try simp only [Act.put, List.setIfInBounds_toArray, List.set_cons_zero, List.set_cons_succ])
          refine wpAnyIn_ready (rs := [4, 6]) (by kernel_rfl) (by simp) ?_
          refine AllReadyIn.cons (o := { dst := some 17, op := Op.call { callee := Callee.value (Operand.func 21), args := #[Operand.tmp 14, Operand.tmp 16], argTypes := #[9, 9] }, type := 3, pos := "label.go:39", after := #[{ on := 1, ground := Ground.data }, { on := 3, ground := Ground.data }], guard := none }) rfl (fun K0 hK0 => ?_) ?_
          · go_simp
            refine ⟨trivial, fun _ => by omega, (callsIn_wide.2 (ahead_any _ _ _)).mono ?_⟩
            rintro e W6 ⟨rfl, hW6⟩
            replace hW6 := hW6.symm
            subst hW6
            refine hK0 _ _ ?_
            clear hK0 K0
            (try simp only [Act.put, List.setIfInBounds_toArray, List.set_cons_zero, List.set_cons_succ])
            refine wpAnyIn_ready (rs := [6]) (by kernel_rfl) (by simp) ?_
            refine AllReadyIn.cons (o := { dst := some 19, op := Op.load 9 (Operand.tmp 18), type := 9, pos := "label.go:39", after := #[{ on := 5, ground := Ground.data }], guard := none }) rfl (fun K0 hK0 => ?_) ?_
            · go_simp
              refine hK0 _ _ ?_
              clear hK0 K0
              (try simp only [Act.put, List.setIfInBounds_toArray, List.set_cons_zero, List.set_cons_succ])
              refine wpAnyIn_ready (rs := [9]) (by kernel_rfl) (by simp) ?_
              refine AllReadyIn.cons (o := { dst := some 22, op := Op.call { callee := Callee.value (Operand.func 21), args := #[Operand.tmp 19, Operand.tmp 21], argTypes := #[9, 9] }, type := 3, pos := "label.go:39", after := #[{ on := 6, ground := Ground.data }, { on := 8, ground := Ground.data }, { on := 4, ground := Ground.chain }], guard := none }) rfl (fun K0 hK0 => ?_) ?_
              · go_simp
                refine ⟨trivial, fun _ => by omega, (callsIn_wide.2 (ahead_any _ _ _)).mono ?_⟩
                rintro e W6 ⟨rfl, hW6⟩
                replace hW6 := hW6.symm
                subst hW6
                refine hK0 _ _ ?_
                clear hK0 K0
                (try simp only [Act.put, List.setIfInBounds_toArray, List.set_cons_zero, List.set_cons_succ])
                refine wpAnyIn_ready (rs := [10]) (by kernel_rfl) (by simp) ?_
                refine AllReadyIn.cons (o := { dst := some 23, op := Op.buildSlice 52 2 #[(0, Operand.tmp 17), (1, Operand.tmp 22)], type := 52, pos := "label.go:39", after := #[{ on := 4, ground := Ground.data }, { on := 9, ground := Ground.data }], guard := none }) rfl (fun K0 hK0 => ?_) ?_
                · go_simp
                  refine hK0 _ _ ?_
                  clear hK0 K0
                  (try simp only [Act.put, List.setIfInBounds_toArray, List.set_cons_zero, List.set_cons_succ])
                  refine wpAnyIn_ready (rs := [11]) (by kernel_rfl) (by simp) ?_
                  refine AllReadyIn.cons (o := { dst := some 24, op := Op.call { callee := Callee.value (Operand.func 20), args := #[Operand.tmp 23], argTypes := #[52] }, type := 3, pos := "label.go:39", after := #[{ on := 10, ground := Ground.data }, { on := 9, ground := Ground.chain }], guard := none }) rfl (fun K0 hK0 => ?_) ?_
                  · go_simp
                    refine ⟨trivial, fun _ => by omega, (callsIn_wide.2 (or_any (s3 x.1.1 x.2.1) (s3 x.1.2 x.2.2) W5.heap.size _ (cells2 W5 _ _ 3).1 (cells2 W5 _ _ 3).2)).mono ?_⟩
                    rintro e W6 ⟨rfl, hW6⟩
                    replace hW6 := hW6.symm
                    subst hW6
                    refine hK0 _ _ ?_
                    clear hK0 K0
                    (try simp only [Act.put, List.setIfInBounds_toArray, List.set_cons_zero, List.set_cons_succ])
                    refine wpAnyIn_ready (rs := [12]) (by kernel_rfl) (by simp) ?_
                    refine AllReadyIn.cons (o := { dst := some 7, op := Op.assign (Operand.tmp 24), type := 3, pos := "label.go:39", after := #[{ on := 11, ground := Ground.data }, { on := 11, ground := Ground.chain }, { on := 0, ground := Ground.phase }, { on := 1, ground := Ground.phase }, { on := 2, ground := Ground.phase }, { on := 3, ground := Ground.phase }, { on := 4, ground := Ground.phase }, { on := 5, ground := Ground.phase }, { on := 6, ground := Ground.phase }, { on := 7, ground := Ground.phase }, { on := 8, ground := Ground.phase }, { on := 9, ground := Ground.phase }, { on := 10, ground := Ground.phase }, { on := 11, ground := Ground.phase }], guard := none }) rfl (fun K0 hK0 => ?_) ?_
                    · go_simp
                      refine hK0 _ _ ?_
                      clear hK0 K0
                      (try simp only [Act.put, List.setIfInBounds_toArray, List.set_cons_zero, List.set_cons_succ])
                      refine wpAnyIn_done (by kernel_rfl) ?_ _
                      have b6 := hb5.out.alloc (.cells #[.int .i64 (s3 x.1.1 x.2.1), .int .i64 (s3 x.1.2 x.2.2)] 3)
                      have B6 := hide (B5.out.alloc B5.out.size (.cells #[.int .i64 (s3 x.1.1 x.2.1), .int .i64 (s3 x.1.2 x.2.2)] 3))
                      have N6 := hide (N5.out.alloc B5.out.size (.cells #[.int .i64 (s3 x.1.1 x.2.1), .int .i64 (s3 x.1.2 x.2.2)] 3))
                      have M6 := hide (M5.out.trans (KeepsOthers.alloc W5 (.cells #[.int .i64 (s3 x.1.1 x.2.1), .int .i64 (s3 x.1.2 x.2.2)] 3)))
                      generalize W5.alloc (.cells #[.int .i64 (s3 x.1.1 x.2.1), .int .i64 (s3 x.1.2 x.2.2)] 3) = W6 at b6 B6 N6 M6 ⊢
                      have q6 := b6.cell
                      have f6 := b6.frozen
                      replace b6 := hide b6
                      clear x0 x1 x2 x3 hW5 B5 N5 M5 hb5
                      rcases Decidable.em (or2 (s3 x.1.1 x.2.1) (s3 x.1.2 x.2.2) = 0) with hq | hq
                      · gi_wp2
                        exact ⟨M6.out.from _, N6.out, ⟨fun y hy => by
                          rcases List.mem_append.1 hy with h | h
                          · exact hz.out y h
                          · rw [List.mem_singleton.1 h]; exact hq, b6.out⟩, B6.out⟩
                      · gi_wp2
                        exact ⟨(M6.out.trans (KeepsOthers.setCell _ _ _)).from _, rfl, ⟨pre, x, rfl, hz.out, hq, b6.out.set _⟩, (BB.trans (B6.out.mono (Nat.le_of_lt zz))).setCell (Nat.le_refl _) _⟩
                    exact AllReadyIn.nil
                  exact AllReadyIn.nil
                exact AllReadyIn.nil
              exact AllReadyIn.nil
            exact AllReadyIn.nil
          refine AllReadyIn.cons (o := { dst := some 19, op := Op.load 9 (Operand.tmp 18), type := 9, pos := "label.go:39", after := #[{ on := 5, ground := Ground.data }], guard := none }) rfl (fun K0 hK0 => ?_) ?_
          · go_simp
            refine hK0 _ _ ?_
            clear hK0 K0
            (try simp only [Act.put, List.setIfInBounds_toArray, List.set_cons_zero, List.set_cons_succ])
            refine wpAnyIn_ready (rs := [4]) (by kernel_rfl) (by simp) ?_
            refine AllReadyIn.cons (o := { dst := some 17, op := Op.call { callee := Callee.value (Operand.func 21), args := #[Operand.tmp 14, Operand.tmp 16], argTypes := #[9, 9] }, type := 3, pos := "label.go:39", after := #[{ on := 1, ground := Ground.data }, { on := 3, ground := Ground.data }], guard := none }) rfl (fun K0 hK0 => ?_) ?_
            · go_simp
              refine ⟨trivial, fun _ => by omega, (callsIn_wide.2 (ahead_any _ _ _)).mono ?_⟩
              rintro e W6 ⟨rfl, hW6⟩
              replace hW6 := hW6.symm
              subst hW6
              refine hK0 _ _ ?_
              clear hK0 K0
              (try simp only [Act.put, List.setIfInBounds_toArray, List.set_cons_zero, List.set_cons_succ])
              refine wpAnyIn_ready (rs := [9]) (by kernel_rfl) (by simp) ?_
              refine AllReadyIn.cons (o := { dst := some 22, op := Op.call { callee := Callee.value (Operand.func 21), args := #[Operand.tmp 19, Operand.tmp 21], argTypes := #[9, 9] }, type := 3, pos := "label.go:39", after := #[{ on := 6, ground := Ground.data }, { on := 8, ground := Ground.data }, { on := 4, ground := Ground.chain }], guard := none }) rfl (fun K0 hK0 => ?_) ?_
              · go_simp
                refine ⟨trivial, fun _ => by omega, (callsIn_wide.2 (ahead_any _ _ _)).mono ?_⟩
                rintro e W6 ⟨rfl, hW6⟩
                replace hW6 := hW6.symm
                subst hW6
                refine hK0 _ _ ?_
                clear hK0 K0
                (try simp only [Act.put, List.setIfInBounds_toArray, List.set_cons_zero, List.set_cons_succ])
                refine wpAnyIn_ready (rs := [10]) (by kernel_rfl) (by simp) ?_
                refine AllReadyIn.cons (o := { dst := some 23, op := Op.buildSlice 52 2 #[(0, Operand.tmp 17), (1, Operand.tmp 22)], type := 52, pos := "label.go:39", after := #[{ on := 4, ground := Ground.data }, { on := 9, ground := Ground.data }], guard := none }) rfl (fun K0 hK0 => ?_) ?_
                · go_simp
                  refine hK0 _ _ ?_
                  clear hK0 K0
                  (try simp only [Act.put, List.setIfInBounds_toArray, List.set_cons_zero, List.set_cons_succ])
                  refine wpAnyIn_ready (rs := [11]) (by kernel_rfl) (by simp) ?_
                  refine AllReadyIn.cons (o := { dst := some 24, op := Op.call { callee := Callee.value (Operand.func 20), args := #[Operand.tmp 23], argTypes := #[52] }, type := 3, pos := "label.go:39", after := #[{ on := 10, ground := Ground.data }, { on := 9, ground := Ground.chain }], guard := none }) rfl (fun K0 hK0 => ?_) ?_
                  · go_simp
                    refine ⟨trivial, fun _ => by omega, (callsIn_wide.2 (or_any (s3 x.1.1 x.2.1) (s3 x.1.2 x.2.2) W5.heap.size _ (cells2 W5 _ _ 3).1 (cells2 W5 _ _ 3).2)).mono ?_⟩
                    rintro e W6 ⟨rfl, hW6⟩
                    replace hW6 := hW6.symm
                    subst hW6
                    refine hK0 _ _ ?_
                    clear hK0 K0
                    (try simp only [Act.put, List.setIfInBounds_toArray, List.set_cons_zero, List.set_cons_succ])
                    refine wpAnyIn_ready (rs := [12]) (by kernel_rfl) (by simp) ?_
                    refine AllReadyIn.cons (o := { dst := some 7, op := Op.assign (Operand.tmp 24), type := 3, pos := "label.go:39", after := #[{ on := 11, ground := Ground.data }, { on := 11, ground := Ground.chain }, { on := 0, ground := Ground.phase }, { on := 1, ground := Ground.phase }, { on := 2, ground := Ground.phase }, { on := 3, ground := Ground.phase }, { on := 4, ground := Ground.phase }, { on := 5, ground := Ground.phase }, { on := 6, ground := Ground.phase }, { on := 7, ground := Ground.phase }, { on := 8, ground := Ground.phase }, { on := 9, ground := Ground.phase }, { on := 10, ground := Ground.phase }, { on := 11, ground := Ground.phase }], guard := none }) rfl (fun K0 hK0 => ?_) ?_
                    · go_simp
                      refine hK0 _ _ ?_
                      clear hK0 K0
                      (try simp only [Act.put, List.setIfInBounds_toArray, List.set_cons_zero, List.set_cons_succ])
                      refine wpAnyIn_done (by kernel_rfl) ?_ _
                      have b6 := hb5.out.alloc (.cells #[.int .i64 (s3 x.1.1 x.2.1), .int .i64 (s3 x.1.2 x.2.2)] 3)
                      have B6 := hide (B5.out.alloc B5.out.size (.cells #[.int .i64 (s3 x.1.1 x.2.1), .int .i64 (s3 x.1.2 x.2.2)] 3))
                      have N6 := hide (N5.out.alloc B5.out.size (.cells #[.int .i64 (s3 x.1.1 x.2.1), .int .i64 (s3 x.1.2 x.2.2)] 3))
                      have M6 := hide (M5.out.trans (KeepsOthers.alloc W5 (.cells #[.int .i64 (s3 x.1.1 x.2.1), .int .i64 (s3 x.1.2 x.2.2)] 3)))
                      generalize W5.alloc (.cells #[.int .i64 (s3 x.1.1 x.2.1), .int .i64 (s3 x.1.2 x.2.2)] 3) = W6 at b6 B6 N6 M6 ⊢
                      have q6 := b6.cell
                      have f6 := b6.frozen
                      replace b6 := hide b6
                      clear x0 x1 x2 x3 hW5 B5 N5 M5 hb5
                      rcases Decidable.em (or2 (s3 x.1.1 x.2.1) (s3 x.1.2 x.2.2) = 0) with hq | hq
                      · gi_wp2
                        exact ⟨M6.out.from _, N6.out, ⟨fun y hy => by
                          rcases List.mem_append.1 hy with h | h
                          · exact hz.out y h
                          · rw [List.mem_singleton.1 h]; exact hq, b6.out⟩, B6.out⟩
                      · gi_wp2
                        exact ⟨(M6.out.trans (KeepsOthers.setCell _ _ _)).from _, rfl, ⟨pre, x, rfl, hz.out, hq, b6.out.set _⟩, (BB.trans (B6.out.mono (Nat.le_of_lt zz))).setCell (Nat.le_refl _) _⟩
                    exact AllReadyIn.nil
                  exact AllReadyIn.nil
                exact AllReadyIn.nil
              exact AllReadyIn.nil
            exact AllReadyIn.nil
          exact AllReadyIn.nil
        exact AllReadyIn.nil
      refine AllReadyIn.cons (o := { dst := some 19, op := Op.load 9 (Operand.tmp 18), type := 9, pos := "label.go:39", after := #[{ on := 5, ground := Ground.data }], guard := none }) rfl (fun K0 hK0 => ?_) ?_
      · go_simp
        refine hK0 _ _ ?_
        clear hK0 K0
        (try simp only [Act.put, List.setIfInBounds_toArray, List.set_cons_zero, List.set_cons_succ])
        refine wpAnyIn_ready (rs := [3, 8]) (by kernel_rfl) (by simp) ?_
        refine AllReadyIn.cons (o := { dst := some 16, op := Op.load 9 (Operand.tmp 15), type := 9, pos := "label.go:39", after := #[{ on := 2, ground := Ground.data }], guard := none }) rfl (fun K0 hK0 => ?_) ?_
        · go_simp
          refine hK0 _ _ ?_
          clear hK0 K0
          (try simp only [Act.put, List.setIfInBounds_toArray, List.set_cons_zero, List.set_cons_succ])
          refine wpAnyIn_ready (rs := [4, 8]) (by kernel_rfl) (by simp) ?_
          refine AllReadyIn.cons (o := { dst := some 17, op := Op.call { callee := Callee.value (Operand.func 21), args := #[Operand.tmp 14, Operand.tmp 16], argTypes := #[9, 9] }, type := 3, pos := "label.go:39", after := #[{ on := 1, ground := Ground.data }, { on := 3, ground := Ground.data }], guard := none }) rfl (fun K0 hK0 => ?_) ?_
          · go_simp
            refine ⟨trivial, fun _ => by omega, (callsIn_wide.2 (ahead_any _ _ _)).mono ?_⟩
            rintro e W6 ⟨rfl, hW6⟩
            replace hW6 := hW6.symm
            subst hW6
            refine hK0 _ _ ?_
            clear hK0 K0
            (try simp only [Act.put, List.setIfInBounds_toArray, List.set_cons_zero, List.set_cons_succ])
            refine wpAnyIn_ready (rs := [8]) (by kernel_rfl) (by simp) ?_
            refine AllReadyIn.cons (o := { dst := some 21, op := Op.load 9 (Operand.tmp 20), type := 9, pos := "label.go:39", after := #[{ on := 7, ground := Ground.data }], guard := none }) rfl (fun K0 hK0 => ?_) ?_
            · go_simp
              refine hK0 _ _ ?_
              clear hK0 K0
              (try simp only [Act.put, List.setIfInBounds_toArray, List.set_cons_zero, List.set_cons_succ])
              refine wpAnyIn_ready (rs := [9]) (by kernel_rfl) (by simp) ?_
              refine AllReadyIn.cons (o := { dst := some 22, op := Op.call { callee := Callee.value (Operand.func 21), args := #[Operand.tmp 19, Operand.tmp 21], argTypes := #[9, 9] }, type := 3, pos := "label.go:39", after := #[{ on := 6, ground := Ground.data }, { on := 8, ground := Ground.data }, { on := 4, ground := Ground.chain }], guard := none }) rfl (fun K0 hK0 => ?_) ?_
              · go_simp
                refine ⟨trivial, fun _ => by omega, (callsIn_wide.2 (ahead_any _ _ _)).mono ?_⟩
                rintro e W6 ⟨rfl, hW6⟩
                replace hW6 := hW6.symm
                subst hW6
                refine hK0 _ _ ?_
                clear hK0 K0
                (try simp only [Act.put, List.setIfInBounds_toArray, List.set_cons_zero, List.set_cons_succ])
                refine wpAnyIn_ready (rs := [10]) (by kernel_rfl) (by simp) ?_
                refine AllReadyIn.cons (o := { dst := some 23, op := Op.buildSlice 52 2 #[(0, Operand.tmp 17), (1, Operand.tmp 22)], type := 52, pos := "label.go:39", after := #[{ on := 4, ground := Ground.data }, { on := 9, ground := Ground.data }], guard := none }) rfl (fun K0 hK0 => ?_) ?_
                · go_simp
                  refine hK0 _ _ ?_
                  clear hK0 K0
                  (try simp only [Act.put, List.setIfInBounds_toArray, List.set_cons_zero, List.set_cons_succ])
                  refine wpAnyIn_ready (rs := [11]) (by kernel_rfl) (by simp) ?_
                  refine AllReadyIn.cons (o := { dst := some 24, op := Op.call { callee := Callee.value (Operand.func 20), args := #[Operand.tmp 23], argTypes := #[52] }, type := 3, pos := "label.go:39", after := #[{ on := 10, ground := Ground.data }, { on := 9, ground := Ground.chain }], guard := none }) rfl (fun K0 hK0 => ?_) ?_
                  · go_simp
                    refine ⟨trivial, fun _ => by omega, (callsIn_wide.2 (or_any (s3 x.1.1 x.2.1) (s3 x.1.2 x.2.2) W5.heap.size _ (cells2 W5 _ _ 3).1 (cells2 W5 _ _ 3).2)).mono ?_⟩
                    rintro e W6 ⟨rfl, hW6⟩
                    replace hW6 := hW6.symm
                    subst hW6
                    refine hK0 _ _ ?_
                    clear hK0 K0
                    (try simp only [Act.put, List.setIfInBounds_toArray, List.set_cons_zero, List.set_cons_succ])
                    refine wpAnyIn_ready (rs := [12]) (by kernel_rfl) (by simp) ?_
                    refine AllReadyIn.cons (o := { dst := some 7, op := Op.assign (Operand.tmp 24), type := 3, pos := "label.go:39", after := #[{ on := 11, ground := Ground.data }, { on := 11, ground := Ground.chain }, { on := 0, ground := Ground.phase }, { on := 1, ground := Ground.phase }, { on := 2, ground := Ground.phase }, { on := 3, ground := Ground.phase }, { on := 4, ground := Ground.phase }, { on := 5, ground := Ground.phase }, { on := 6, ground := Ground.phase }, { on := 7, ground := Ground.phase }, { on := 8, ground := Ground.phase }, { on := 9, ground := Ground.phase }, { on := 10, ground := Ground.phase }, { on := 11, ground := Ground.phase }], guard := none }) rfl (fun K0 hK0 => ?_) ?_
                    · go_simp
                      refine hK0 _ _ ?_
                      clear hK0 K0
                      (try simp only [Act.put, List.setIfInBounds_toArray, List.set_cons_zero, List.set_cons_succ])
                      refine wpAnyIn_done (by kernel_rfl) ?_ _
                      have b6 := hb5.out.alloc (.cells #[.int .i64 (s3 x.1.1 x.2.1), .int .i64 (s3 x.1.2 x.2.2)] 3)
                      have B6 := hide (B5.out.alloc B5.out.size (.cells #[.int .i64 (s3 x.1.1 x.2.1), .int .i64 (s3 x.1.2 x.2.2)] 3))
                      have N6 := hide (N5.out.alloc B5.out.size (.cells #[.int .i64 (s3 x.1.1 x.2.1), .int .i64 (s3 x.1.2 x.2.2)] 3))
                      have M6 := hide (M5.out.trans (KeepsOthers.alloc W5 (.cells #[.int .i64 (s3 x.1.1 x.2.1), .int .i64 (s3 x.1.2 x.2.2)] 3)))
                      generalize W5.alloc (.cells #[.int .i64 (s3 x.1.1 x.2.1), .int .i64 (s3 x.1.2 x.2.2)] 3) = W6 at b6 B6 N6 M6 ⊢
                      have q6 := b6.cell
                      have f6 := b6.frozen
                      replace b6 := hide b6
                      clear x0 x1 x2 x3 hW5 B5 N5 M5 hb5
                      rcases Decidable.em (or2 (s3 x.1.1 x.2.1) (s3 x.1.2 x.2.2) = 0) with hq | hq
                      · gi_wp2
                        exact ⟨M6.out.from _, N6.out, ⟨fun y hy => by
                          rcases List.mem_append.1 hy with h | h
                          · exact hz.out y h
                          · rw [List.mem_singleton.1 h]; exact hq, b6.out⟩, B6.out⟩
                      · gi_wp2
                        exact ⟨(M6.out.trans (KeepsOthers.setCell _ _ _)).from _, rfl, ⟨pre, x, rfl, hz.out, hq, b6.out.set _⟩, (BB.trans (B6.out.mono (Nat.le_of_lt zz))).setCell (Nat.le_refl _) _⟩
                    exact AllReadyIn.nil
                  exact AllReadyIn.nil
                exact AllReadyIn.nil
              exact AllReadyIn.nil
            exact AllReadyIn.nil
          refine AllReadyIn.cons (o := { dst := some 21, op := Op.load 9 (Operand.tmp 20), type := 9, pos := "label.go:39", after := #[{ on := 7, ground := Ground.data }], guard := none }) rfl (fun K0 hK0 => ?_) ?_
          · go_simp
            refine hK0 _ _ ?_
            clear hK0 K0
            (try simp only [Act.put, List.setIfInBounds_toArray, List.set_cons_zero, List.set_cons_succ])
            refine wpAnyIn_ready (rs := [4]) (by kernel_rfl) (by simp) ?_
            refine AllReadyIn.cons (o := { dst := some 17, op := Op.call { callee := Callee.value (Operand.func 21), args := #[Operand.tmp 14, Operand.tmp 16], argTypes := #[9, 9] }, type := 3, pos := "label.go:39", after := #[{ on := 1, ground := Ground.data }, { on := 3, ground := Ground.data }], guard := none }) rfl (fun K0 hK0 => ?_) ?_
            · go_simp
              refine ⟨trivial, fun _ => by omega, (callsIn_wide.2 (ahead_any _ _ _)).mono ?_⟩
              rintro e W6 ⟨rfl, hW6⟩
              replace hW6 := hW6.symm
              subst hW6
              refine hK0 _ _ ?_
              clear hK0 K0
              (try simp only [Act.put, List.setIfInBounds_toArray, List.set_cons_zero, List.set_cons_succ])
              refine wpAnyIn_ready (rs := [9]) (by kernel_rfl) (by simp) ?_
              refine AllReadyIn.cons (o := { dst := some 22, op := Op.call { callee := Callee.value (Operand.func 21), args := #[Operand.tmp 19, Operand.tmp 21], argTypes := #[9, 9] }, type := 3, pos := "label.go:39", after := #[{ on := 6, ground := Ground.data }, { on := 8, ground := Ground.data }, { on := 4, ground := Ground.chain }], guard := none }) rfl (fun K0 hK0 => ?_) ?_
              · go_simp
                refine ⟨trivial, fun _ => by omega, (callsIn_wide.2 (ahead_any _ _ _)).mono ?_⟩
                rintro e W6 ⟨rfl, hW6⟩
                replace hW6 := hW6.symm
                subst hW6
                refine hK0 _ _ ?_
                clear hK0 K0
                (try simp only [Act.put, List.setIfInBounds_toArray, List.set_cons_zero, List.set_cons_succ])
                refine wpAnyIn_ready (rs := [10]) (by kernel_rfl) (by simp) ?_
                refine AllReadyIn.cons (o := { dst := some 23, op := Op.buildSlice 52 2 #[(0, Operand.tmp 17), (1, Operand.tmp 22)], type := 52, pos := "label.go:39", after := #[{ on := 4, ground := Ground.data }, { on := 9, ground := Ground.data }], guard := none }) rfl (fun K0 hK0 => ?_) ?_
                · go_simp
                  refine hK0 _ _ ?_
                  clear hK0 K0
                  (try simp only [Act.put, List.setIfInBounds_toArray, List.set_cons_zero, List.set_cons_succ])
                  refine wpAnyIn_ready (rs := [11]) (by kernel_rfl) (by simp) ?_
                  refine AllReadyIn.cons (o := { dst := some 24, op := Op.call { callee := Callee.value (Operand.func 20), args := #[Operand.tmp 23], argTypes := #[52] }, type := 3, pos := "label.go:39", after := #[{ on := 10, ground := Ground.data }, { on := 9, ground := Ground.chain }], guard := none }) rfl (fun K0 hK0 => ?_) ?_
                  · go_simp
                    refine ⟨trivial, fun _ => by omega, (callsIn_wide.2 (or_any (s3 x.1.1 x.2.1) (s3 x.1.2 x.2.2) W5.heap.size _ (cells2 W5 _ _ 3).1 (cells2 W5 _ _ 3).2)).mono ?_⟩
                    rintro e W6 ⟨rfl, hW6⟩
                    replace hW6 := hW6.symm
                    subst hW6
                    refine hK0 _ _ ?_
                    clear hK0 K0
                    (try simp only [Act.put, List.setIfInBounds_toArray, List.set_cons_zero, List.set_cons_succ])
                    refine wpAnyIn_ready (rs := [12]) (by kernel_rfl) (by simp) ?_
                    refine AllReadyIn.cons (o := { dst := some 7, op := Op.assign (Operand.tmp 24), type := 3, pos := "label.go:39", after := #[{ on := 11, ground := Ground.data }, { on := 11, ground := Ground.chain }, { on := 0, ground := Ground.phase }, { on := 1, ground := Ground.phase }, { on := 2, ground := Ground.phase }, { on := 3, ground := Ground.phase }, { on := 4, ground := Ground.phase }, { on := 5, ground := Ground.phase }, { on := 6, ground := Ground.phase }, { on := 7, ground := Ground.phase }, { on := 8, ground := Ground.phase }, { on := 9, ground := Ground.phase }, { on := 10, ground := Ground.phase }, { on := 11, ground := Ground.phase }], guard := none }) rfl (fun K0 hK0 => ?_) ?_
                    · go_simp
                      refine hK0 _ _ ?_
                      clear hK0 K0
                      (try simp only [Act.put, List.setIfInBounds_toArray, List.set_cons_zero, List.set_cons_succ])
                      refine wpAnyIn_done (by kernel_rfl) ?_ _
                      have b6 := hb5.out.alloc (.cells #[.int .i64 (s3 x.1.1 x.2.1), .int .i64 (s3 x.1.2 x.2.2)] 3)
                      have B6 := hide (B5.out.alloc B5.out.size (.cells #[.int .i64 (s3 x.1.1 x.2.1), .int .i64 (s3 x.1.2 x.2.2)] 3))
                      have N6 := hide (N5.out.alloc B5.out.size (.cells #[.int .i64 (s3 x.1.1 x.2.1), .int .i64 (s3 x.1.2 x.2.2)] 3))
                      have M6 := hide (M5.out.trans (KeepsOthers.alloc W5 (.cells #[.int .i64 (s3 x.1.1 x.2.1), .int .i64 (s3 x.1.2 x.2.2)] 3)))
                      generalize W5.alloc (.cells #[.int .i64 (s3 x.1.1 x.2.1), .int .i64 (s3 x.1.2 x.2.2)] 3) = W6 at b6 B6 N6 M6 ⊢
                      have q6 := b6.cell
                      have f6 := b6.frozen
                      replace b6 := hide b6
                      clear x0 x1 x2 x3 hW5 B5 N5 M5 hb5
                      rcases Decidable.em (or2 (s3 x.1.1 x.2.1) (s3 x.1.2 x.2.2) = 0) with hq | hq
                      · gi_wp2
                        exact ⟨M6.out.from _, N6.out, ⟨fun y hy => by
                          rcases List.mem_append.1 hy with h | h
                          · exact hz.out y h
                          · rw [List.mem_singleton.1 h]; exact hq, b6.out⟩, B6.out⟩
                      · gi_wp2
                        exact ⟨(M6.out.trans (KeepsOthers.setCell _ _ _)).from _, rfl, ⟨pre, x, rfl, hz.out, hq, b6.out.set _⟩, (BB.trans (B6.out.mono (Nat.le_of_lt zz))).setCell (Nat.le_refl _) _⟩
                    exact AllReadyIn.nil
                  exact AllReadyIn.nil
                exact AllReadyIn.nil
              exact AllReadyIn.nil
            exact AllReadyIn.nil
          exact AllReadyIn.nil
        refine AllReadyIn.cons (o := { dst := some 21, op := Op.load 9 (Operand.tmp 20), type := 9, pos := "label.go:39", after := #[{ on := 7, ground := Ground.data }], guard := none }) rfl (fun K0 hK0 => ?_) ?_
        · go_simp
          refine hK0 _ _ ?_
          clear hK0 K0
          (try simp only [Act.put, List.setIfInBounds_toArray, List.set_cons_zero, List.set_cons_succ])
          refine wpAnyIn_ready (rs := [3]) (by kernel_rfl) (by simp) ?_
          refine AllReadyIn.cons (o := { dst := some 16, op := Op.load 9 (Operand.tmp 15), type := 9, pos := "label.go:39", after := #[{ on := 2, ground := Ground.data }], guard := none }) rfl (fun K0 hK0 => ?_) ?_
          · go_simp
            refine hK0 _ _ ?_
            clear hK0 K0
            (try simp only [Act.put, List.setIfInBounds_toArray, List.set_cons_zero, List.set_cons_succ])
            refine wpAnyIn_ready (rs := [4]) (by kernel_rfl) (by simp) ?_
            refine AllReadyIn.cons (o := { dst := some 17, op := Op.call { callee := Callee.value (Operand.func 21), args := #[Operand.tmp 14, Operand.tmp 16], argTypes := #[9, 9] }, type := 3, pos := "label.go:39", after := #[{ on := 1, ground := Ground.data }, { on := 3, ground := Ground.data }], guard := none }) rfl (fun K0 hK0 => ?_) ?_
            · go_simp
              refine ⟨trivial, fun _ => by omega, (callsIn_wide.2 (ahead_any _ _ _)).mono ?_⟩
              rintro e W6 ⟨rfl, hW6⟩
              replace hW6 := hW6.symm
              subst hW6
              refine hK0 _ _ ?_
              clear hK0 K0
              (try simp only [Act.put, List.setIfInBounds_toArray, List.set_cons_zero, List.set_cons_succ])
              refine wpAnyIn_ready (rs := [9]) (by kernel_rfl) (by simp) ?_
              refine AllReadyIn.cons (o := { dst := some 22, op := Op.call { callee := Callee.value (Operand.func 21), args := #[Operand.tmp 19, Operand.tmp 21], argTypes := #[9, 9] }, type := 3, pos := "label.go:39", after := #[{ on := 6, ground := Ground.data }, { on := 8, ground := Ground.data }, { on := 4, ground := Ground.chain }], guard := none }) rfl (fun K0 hK0 => ?_) ?_
              · go_simp
                refine ⟨trivial, fun _ => by omega, (callsIn_wide.2 (ahead_any _ _ _)).mono ?_⟩
                rintro e W6 ⟨rfl, hW6⟩
                replace hW6 := hW6.symm
                subst hW6
                refine hK0 _ _ ?_
                clear hK0 K0
                (try simp only [Act.put, List.setIfInBounds_toArray, List.set_cons_zero, List.set_cons_succ])
                refine wpAnyIn_ready (rs := [10]) (by kernel_rfl) (by simp) ?_
                refine AllReadyIn.cons (o := { dst := some 23, op := Op.buildSlice 52 2 #[(0, Operand.tmp 17), (1, Operand.tmp 22)], type := 52, pos := "label.go:39", after := #[{ on := 4, ground := Ground.data }, { on := 9, ground := Ground.data }], guard := none }) rfl (fun K0 hK0 => ?_) ?_
                · go_simp
                  refine hK0 _ _ ?_
                  clear hK0 K0
                  (try simp only [Act.put, List.setIfInBounds_toArray, List.set_cons_zero, List.set_cons_succ])
                  refine wpAnyIn_ready (rs := [11]) (by kernel_rfl) (by simp) ?_
                  refine AllReadyIn.cons (o := { dst := some 24, op := Op.call { callee := Callee.value (Operand.func 20), args := #[Operand.tmp 23], argTypes := #[52] }, type := 3, pos := "label.go:39", after := #[{ on := 10, ground := Ground.data }, { on := 9, ground := Ground.chain }], guard := none }) rfl (fun K0 hK0 => ?_) ?_
                  · go_simp
                    refine ⟨trivial, fun _ => by omega, (callsIn_wide.2 (or_any (s3 x.1.1 x.2.1) (s3 x.1.2 x.2.2) W5.heap.size _ (cells2 W5 _ _ 3).1 (cells2 W5 _ _ 3).2)).mono ?_⟩
                    rintro e W6 ⟨rfl, hW6⟩
                    replace hW6 := hW6.symm
                    subst hW6
                    refine hK0 _ _ ?_
                    clear hK0 K0
                    (try simp only [Act.put, List.setIfInBounds_toArray, List.set_cons_zero, List.set_cons_succ])
                    refine wpAnyIn_ready (rs := [12]) (by kernel_rfl) (by simp) ?_
                    refine AllReadyIn.cons (o := { dst := some 7, op := Op.assign (Operand.tmp 24), type := 3, pos := "label.go:39", after := #[{ on := 11, ground := Ground.data }, { on := 11, ground := Ground.chain }, { on := 0, ground := Ground.phase }, { on := 1, ground := Ground.phase }, { on := 2, ground := Ground.phase }, { on := 3, ground := Ground.phase }, { on := 4, ground := Ground.phase }, { on := 5, ground := Ground.phase }, { on := 6, ground := Ground.phase }, { on := 7, ground := Ground.phase }, { on := 8, ground := Ground.phase }, { on := 9, ground := Ground.phase }, { on := 10, ground := Ground.phase }, { on := 11, ground := Ground.phase }], guard := none }) rfl (fun K0 hK0 => ?_) ?_
                    · go_simp
                      refine hK0 _ _ ?_
                      clear hK0 K0
                      (try simp only [Act.put, List.setIfInBounds_toArray, List.set_cons_zero, List.set_cons_succ])
                      refine wpAnyIn_done (by kernel_rfl) ?_ _
                      have b6 := hb5.out.alloc (.cells #[.int .i64 (s3 x.1.1 x.2.1), .int .i64 (s3 x.1.2 x.2.2)] 3)
                      have B6 := hide (B5.out.alloc B5.out.size (.cells #[.int .i64 (s3 x.1.1 x.2.1), .int .i64 (s3 x.1.2 x.2.2)] 3))
                      have N6 := hide (N5.out.alloc B5.out.size (.cells #[.int .i64 (s3 x.1.1 x.2.1), .int .i64 (s3 x.1.2 x.2.2)] 3))
                      have M6 := hide (M5.out.trans (KeepsOthers.alloc W5 (.cells #[.int .i64 (s3 x.1.1 x.2.1), .int .i64 (s3 x.1.2 x.2.2)] 3)))
                      generalize W5.alloc (.cells #[.int .i64 (s3 x.1.1 x.2.1), .int .i64 (s3 x.1.2 x.2.2)] 3) = W6 at b6 B6 N6 M6 ⊢
                      have q6 := b6.cell
                      have f6 := b6.frozen
                      replace b6 := hide b6
                      clear x0 x1 x2 x3 hW5 B5 N5 M5 hb5
                      rcases Decidable.em (or2 (s3 x.1.1 x.2.1) (s3 x.1.2 x.2.2) = 0) with hq | hq
                      · gi_wp2
                        exact ⟨M6.out.from _, N6.out, ⟨fun y hy => by
                          rcases List.mem_append.1 hy with h | h
                          · exact hz.out y h
                          · rw [List.mem_singleton.1 h]; exact hq, b6.out⟩, B6.out⟩
                      · gi_wp2
                        exact ⟨(M6.out.trans (KeepsOthers.setCell _ _ _)).from _, rfl, ⟨pre, x, rfl, hz.out, hq, b6.out.set _⟩, (BB.trans (B6.out.mono (Nat.le_of_lt zz))).setCell (Nat.le_refl _) _⟩
                    exact AllReadyIn.nil
                  exact AllReadyIn.nil
                exact AllReadyIn.nil
              exact AllReadyIn.nil
            exact AllReadyIn.nil
          exact AllReadyIn.nil
        exact AllReadyIn.nil
      refine AllReadyIn.cons (o := { dst := some 21, op := Op.load 9 (Operand.tmp 20), type := 9, pos := "label.go:39", after := #[{ on := 7, ground := Ground.data }], guard := none }) rfl (fun K0 hK0 => ?_) ?_
      · go_simp
        refine hK0 _ _ ?_
        clear hK0 K0
        (try simp only [Act.put, List.setIfInBounds_toArray, List.set_cons_zero, List.set_cons_succ])
        refine wpAnyIn_ready (rs := [3, 6]) (by kernel_rfl) (by simp) ?_
        refine AllReadyIn.cons (o := { dst := some 16, op := Op.load 9 (Operand.tmp 15), type := 9, pos := "label.go:39", after := #[{ on := 2, ground := Ground.data }], guard := none }) rfl (fun K0 hK0 => ?_) ?_
        · go_simp
          refine hK0 _ _ ?_
          clear hK0 K0
          (try simp only [Act.put, List.setIfInBounds_toArray, List.set_cons_zero, List.set_cons_succ])
          refine wpAnyIn_ready (rs := [4, 6]) (by kernel_rfl) (by simp) ?_
          refine AllReadyIn.cons (o := { dst := some 17, op := Op.call { callee := Callee.value (Operand.func 21), args := #[Operand.tmp 14, Operand.tmp 16], argTypes := #[9, 9] }, type := 3, pos := "label.go:39", after := #[{ on := 1, ground := Ground.data }, { on := 3, ground := Ground.data }], guard := none }) rfl (fun K0 hK0 => ?_) ?_
          · go_simp
            refine ⟨trivial, fun _ => by omega, (callsIn_wide.2 (ahead_any _ _ _)).mono ?_⟩
            rintro e W6 ⟨rfl, hW6⟩
            replace hW6 := hW6.symm
            subst hW6
            refine hK0 _ _ ?_
            clear hK0 K0
            (try simp only [Act.put, List.setIfInBounds_toArray, List.set_cons_zero, List.set_cons_succ])
            refine wpAnyIn_ready (rs := [6]) (by kernel_rfl) (by simp) ?_
            refine AllReadyIn.cons (o := { dst := some 19, op := Op.load 9 (Operand.tmp 18), type := 9, pos := "label.go:39", after := #[{ on := 5, ground := Ground.data }], guard := none }) rfl (fun K0 hK0 => ?_) ?_
            · go_simp
              refine hK0 _ _ ?_
              clear hK0 K0
              (try simp only [Act.put, List.setIfInBounds_toArray, List.set_cons_zero, List.set_cons_succ])
              refine wpAnyIn_ready (rs := [9]) (by kernel_rfl) (by simp) ?_
              refine AllReadyIn.cons (o := { dst := some 22, op := Op.call { callee := Callee.value (Operand.func 21), args := #[Operand.tmp 19, Operand.tmp 21], argTypes := #[9, 9] }, type := 3, pos := "label.go:39", after := #[{ on := 6, ground := Ground.data }, { on := 8, ground := Ground.data }, { on := 4, ground := Ground.chain }], guard := none }) rfl (fun K0 hK0 => ?_) ?_
              · go_simp
                refine ⟨trivial, fun _ => by omega, (callsIn_wide.2 (ahead_any _ _ _)).mono ?_⟩
                rintro e W6 ⟨rfl, hW6⟩
                replace hW6 := hW6.symm
                subst hW6
                refine hK0 _ _ ?_
                clear hK0 K0
                (try simp only [Act.put, List.setIfInBounds_toArray, List.set_cons_zero, List.set_cons_succ])
                refine wpAnyIn_ready (rs := [10]) (by kernel_rfl) (by simp) ?_
                refine AllReadyIn.cons (o := { dst := some 23, op := Op.buildSlice 52 2 #[(0, Operand.tmp 17), (1, Operand.tmp 22)], type := 52, pos := "label.go:39", after := #[{ on := 4, ground := Ground.data }, { on := 9, ground := Ground.data }], guard := none }) rfl (fun K0 hK0 => ?_) ?_
                · go_simp
                  refine hK0 _ _ ?_
                  clear hK0 K0
                  (try simp only [Act.put, List.setIfInBounds_toArray, List.set_cons_zero, List.set_cons_succ])
                  refine wpAnyIn_ready (rs := [11]) (by kernel_rfl) (by simp) ?_
                  refine AllReadyIn.cons (o := { dst := some 24, op := Op.call { callee := Callee.value (Operand.func 20), args := #[Operand.tmp 23], argTypes := #[52] }, type := 3, pos := "label.go:39", after := #[{ on := 10, ground := Ground.data }, { on := 9, ground := Ground.chain }], guard := none }) rfl (fun K0 hK0 => ?_) ?_
                  · go_simp
                    refine ⟨trivial, fun _ => by omega, (callsIn_wide.2 (or_any (s3 x.1.1 x.2.1) (s3 x.1.2 x.2.2) W5.heap.size _ (cells2 W5 _ _ 3).1 (cells2 W5 _ _ 3).2)).mono ?_⟩
                    rintro e W6 ⟨rfl, hW6⟩
                    replace hW6 := hW6.symm
                    subst hW6
                    refine hK0 _ _ ?_
                    clear hK0 K0
                    (try simp only [Act.put, List.setIfInBounds_toArray, List.set_cons_zero, List.set_cons_succ])
                    refine wpAnyIn_ready (rs := [12]) (by kernel_rfl) (by simp) ?_
                    refine AllReadyIn.cons (o := { dst := some 7, op := Op.assign (Operand.tmp 24), type := 3, pos := "label.go:39", after := #[{ on := 11, ground := Ground.data }, { on := 11, ground := Ground.chain }, { on := 0, ground := Ground.phase }, { on := 1, ground := Ground.phase }, { on := 2, ground := Ground.phase }, { on := 3, ground := Ground.phase }, { on := 4, ground := Ground.phase }, { on := 5, ground := Ground.phase }, { on := 6, ground := Ground.phase }, { on := 7, ground := Ground.phase }, { on := 8, ground := Ground.phase }, { on := 9, ground := Ground.phase }, { on := 10, ground := Ground.phase }, { on := 11, ground := Ground.phase }], guard := none }) rfl (fun K0 hK0 => ?_) ?_
                    · go_simp
                      refine hK0 _ _ ?_
                      clear hK0 K0
                      (try simp only [Act.put, List.setIfInBounds_toArray, List.set_cons_zero, List.set_cons_succ])
                      refine wpAnyIn_done (by kernel_rfl) ?_ _
                      have b6 := hb5.out.alloc (.cells #[.int .i64 (s3 x.1.1 x.2.1), .int .i64 (s3 x.1.2 x.2.2)] 3)
                      have B6 := hide (B5.out.alloc B5.out.size (.cells #[.int .i64 (s3 x.1.1 x.2.1), .int .i64 (s3 x.1.2 x.2.2)] 3))
                      have N6 := hide (N5.out.alloc B5.out.size (.cells #[.int .i64 (s3 x.1.1 x.2.1), .int .i64 (s3 x.1.2 x.2.2)] 3))
                      have M6 := hide (M5.out.trans (KeepsOthers.alloc W5 (.cells #[.int .i64 (s3 x.1.1 x.2.1), .int .i64 (s3 x.1.2 x.2.2)] 3)))
                      generalize W5.alloc (.cells #[.int .i64 (s3 x.1.1 x.2.1), .int .i64 (s3 x.1.2 x.2.2)] 3) = W6 at b6 B6 N6 M6 ⊢
                      have q6 := b6.cell
                      have f6 := b6.frozen
                      replace b6 := hide b6
                      clear x0 x1 x2 x3 hW5 B5 N5 M5 hb5
                      rcases Decidable.em (or2 (s3 x.1.1 x.2.1) (s3 x.1.2 x.2.2) = 0) with hq | hq
                      · gi_wp2
                        exact ⟨M6.out.from _, N6.out, ⟨fun y hy => by
                          rcases List.mem_append.1 hy with h | h
                          · exact hz.out y h
                          · rw [List.mem_singleton.1 h]; exact hq, b6.out⟩, B6.out⟩
                      · gi_wp2
                        exact ⟨(M6.out.trans (KeepsOthers.setCell _ _ _)).from _, rfl, ⟨pre, x, rfl, hz.out, hq, b6.out.set _⟩, (BB.trans (B6.out.mono (Nat.le_of_lt zz))).setCell (Nat.le_refl _) _⟩
                    exact AllReadyIn.nil
                  exact AllReadyIn.nil
                exact AllReadyIn.nil
              exact AllReadyIn.nil
            exact AllReadyIn.nil
          refine AllReadyIn.cons (o := { dst := some 19, op := Op.load 9 (Operand.tmp 18), type := 9, pos := "label.go:39", after := #[{ on := 5, ground := Ground.data }], guard := none }) rfl (fun K0 hK0 => ?_) ?_
          · go_simp
            refine hK0 _ _ ?_
            clear hK0 K0
            (try simp only [Act.put, List.setIfInBounds_toArray, List.set_cons_zero, List.set_cons_succ])
            refine wpAnyIn_ready (rs := [4]) (by kernel_rfl) (by simp) ?_
            refine AllReadyIn.cons (o := { dst := some 17, op := Op.call { callee := Callee.value (Operand.func 21), args := #[Operand.tmp 14, Operand.tmp 16], argTypes := #[9, 9] }, type := 3, pos := "label.go:39", after := #[{ on := 1, ground := Ground.data }, { on := 3, ground := Ground.data }], guard := none }) rfl (fun K0 hK0 => ?_) ?_
            · go_simp
              refine ⟨trivial, fun _ => by omega, (callsIn_wide.2 (ahead_any _ _ _)).mono ?_⟩
              rintro e W6 ⟨rfl, hW6⟩
              replace hW6 := hW6.symm
              subst hW6
              refine hK0 _ _ ?_
              clear hK0 K0
              (try simp only [Act.put, List.setIfInBounds_toArray, List.set_cons_zero, List.set_cons_succ])
              refine wpAnyIn_ready (rs := [9]) (by kernel_rfl) (by simp) ?_
              refine AllReadyIn.cons (o := { dst := some 22, op := Op.call { callee := Callee.value (Operand.func 21), args := #[Operand.tmp 19, Operand.tmp 21], argTypes := #[9, 9] }, type := 3, pos := "label.go:39", after := #[{ on := 6, ground := Ground.data }, { on := 8, ground := Ground.data }, { on := 4, ground := Ground.chain }], guard := none }) rfl (fun K0 hK0 => ?_) ?_
              · go_simp
                refine ⟨trivial, fun _ => by omega, (callsIn_wide.2 (ahead_any _ _ _)).mono ?_⟩
                rintro e W6 ⟨rfl, hW6⟩
                replace hW6 := hW6.symm
                subst hW6
                refine hK0 _ _ ?_
                clear hK0 K0
                (try simp only [Act.put, List.setIfInBounds_toArray, List.set_cons_zero, List.set_cons_succ])
                refine wpAnyIn_ready (rs := [10]) (by kernel_rfl) (by simp) ?_
                refine AllReadyIn.cons (o := { dst := some 23, op := Op.buildSlice 52 2 #[(0, Operand.tmp 17), (1, Operand.tmp 22)], type := 52, pos := "label.go:39", after := #[{ on := 4, ground := Ground.data }, { on := 9, ground := Ground.data }], guard := none }) rfl (fun K0 hK0 => ?_) ?_
                · go_simp
                  refine hK0 _ _ ?_
                  clear hK0 K0
                  (try simp only [Act.put, List.setIfInBounds_toArray, List.set_cons_zero, List.set_cons_succ])
                  refine wpAnyIn_ready (rs := [11]) (by kernel_rfl) (by simp) ?_
                  refine AllReadyIn.cons (o := { dst := some 24, op := Op.call { callee := Callee.value (Operand.func 20), args := #[Operand.tmp 23], argTypes := #[52] }, type := 3, pos := "label.go:39", after := #[{ on := 10, ground := Ground.data }, { on := 9, ground := Ground.chain }], guard := none }) rfl (fun K0 hK0 => ?_) ?_
                  · go_simp
                    refine ⟨trivial, fun _ => by omega, (callsIn_wide.2 (or_any (s3 x.1.1 x.2.1) (s3 x.1.2 x.2.2) W5.heap.size _ (cells2 W5 _ _ 3).1 (cells2 W5 _ _ 3).2)).mono ?_⟩
                    rintro e W6 ⟨rfl, hW6⟩
                    replace hW6 := hW6.symm
                    subst hW6
                    refine hK0 _ _ ?_
                    clear hK0 K0
                    (try simp only [Act.put, List.setIfInBounds_toArray, List.set_cons_zero, List.set_cons_succ])
                    refine wpAnyIn_ready (rs := [12]) (by kernel_rfl) (by simp) ?_
                    refine AllReadyIn.cons (o := { dst := some 7, op := Op.assign (Operand.tmp 24), type := 3, pos := "label.go:39", after := #[{ on := 11, ground := Ground.data }, { on := 11, ground := Ground.chain }, { on := 0, ground := Ground.phase }, { on := 1, ground := Ground.phase }, { on := 2, ground := Ground.phase }, { on := 3, ground := Ground.phase }, { on := 4, ground := Ground.phase }, { on := 5, ground := Ground.phase }, { on := 6, ground := Ground.phase }, { on := 7, ground := Ground.phase }, { on := 8, ground := Ground.phase }, { on := 9, ground := Ground.phase }, { on := 10, ground := Ground.phase }, { on := 11, ground := Ground.phase }], guard := none }) rfl (fun K0 hK0 => ?_) ?_
                    · go_simp
                      refine hK0 _ _ ?_
                      clear hK0 K0
                      (try simp only [Act.put, List.setIfInBounds_toArray, List.set_cons_zero, List.set_cons_succ])
                      refine wpAnyIn_done (by kernel_rfl) ?_ _
                      have b6 := hb5.out.alloc (.cells #[.int .i64 (s3 x.1.1 x.2.1), .int .i64 (s3 x.1.2 x.2.2)] 3)
                      have B6 := hide (B5.out.alloc B5.out.size (.cells #[.int .i64 (s3 x.1.1 x.2.1), .int .i64 (s3 x.1.2 x.2.2)] 3))
                      have N6 := hide (N5.out.alloc B5.out.size (.cells #[.int .i64 (s3 x.1.1 x.2.1), .int .i64 (s3 x.1.2 x.2.2)] 3))
                      have M6 := hide (M5.out.trans (KeepsOthers.alloc W5 (.cells #[.int .i64 (s3 x.1.1 x.2.1), .int .i64 (s3 x.1.2 x.2.2)] 3)))
                      generalize W5.alloc (.cells #[.int .i64 (s3 x.1.1 x.2.1), .int .i64 (s3 x.1.2 x.2.2)] 3) = W6 at b6 B6 N6 M6 ⊢
                      have q6 := b6.cell
                      have f6 := b6.frozen
                      replace b6 := hide b6
                      clear x0 x1 x2 x3 hW5 B5 N5 M5 hb5
                      rcases Decidable.em (or2 (s3 x.1.1 x.2.1) (s3 x.1.2 x.2.2) = 0) with hq | hq
                      · gi_wp2
                        exact ⟨M6.out.from _, N6.out, ⟨fun y hy => by
                          rcases List.mem_append.1 hy with h | h
                          · exact hz.out y h
                          · rw [List.mem_singleton.1 h]; exact hq, b6.out⟩, B6.out⟩
                      · gi_wp2
                        exact ⟨(M6.out.trans (KeepsOthers.setCell _ _ _)).from _, rfl, ⟨pre, x, rfl, hz.out, hq, b6.out.set _⟩, (BB.trans (B6.out.mono (Nat.le_of_lt zz))).setCell (Nat.le_refl _) _⟩
                    exact AllReadyIn.nil
                  exact AllReadyIn.nil
                exact AllReadyIn.nil
              exact AllReadyIn.nil
            exact AllReadyIn.nil
          exact AllReadyIn.nil
        refine AllReadyIn.cons (o := { dst := some 19, op := Op.load 9 (Operand.tmp 18), type := 9, pos := "label.go:39", after := #[{ on := 5, ground := Ground.data }], guard := none }) rfl (fun K0 hK0 => ?_) ?_
        · go_simp
          refine hK0 _ _ ?_
          clear hK0 K0
          (try simp only [Act.put, List.setIfInBounds_toArray, List.set_cons_zero, List.set_cons_succ])
          refine wpAnyIn_ready (rs := [3]) (by kernel_rfl) (by simp) ?_
          refine AllReadyIn.cons (o := { dst := some 16, op := Op.load 9 (Operand.tmp 15), type := 9, pos := "label.go:39", after := #[{ on := 2, ground := Ground.data }], guard := none }) rfl (fun K0 hK0 => ?_) ?_
          · go_simp
            refine hK0 _ _ ?_
            clear hK0 K0
            (try simp only [Act.put, List.setIfInBounds_toArray, List.set_cons_zero, List.set_cons_succ])
            refine wpAnyIn_ready (rs := [4]) (by kernel_rfl) (by simp) ?_
            refine AllReadyIn.cons (o := { dst := some 17, op := Op.call { callee := Callee.value (Operand.func 21), args := #[Operand.tmp 14, Operand.tmp 16], argTypes := #[9, 9] }, type := 3, pos := "label.go:39", after := #[{ on := 1, ground := Ground.data }, { on := 3, ground := Ground.data }], guard := none }) rfl (fun K0 hK0 => ?_) ?_
            · go_simp
              refine ⟨trivial, fun _ => by omega, (callsIn_wide.2 (ahead_any _ _ _)).mono ?_⟩
              rintro e W6 ⟨rfl, hW6⟩
              replace hW6 := hW6.symm
              subst hW6
              refine hK0 _ _ ?_
              clear hK0 K0
              (try simp only [Act.put, List.setIfInBounds_toArray, List.set_cons_zero, List.set_cons_succ])
              refine wpAnyIn_ready (rs := [9]) (by kernel_rfl) (by simp) ?_
              refine AllReadyIn.cons (o := { dst := some 22, op := Op.call { callee := Callee.value (Operand.func 21), args := #[Operand.tmp 19, Operand.tmp 21], argTypes := #[9, 9] }, type := 3, pos := "label.go:39", after := #[{ on := 6, ground := Ground.data }, { on := 8, ground := Ground.data }, { on := 4, ground := Ground.chain }], guard := none }) rfl (fun K0 hK0 => ?_) ?_
              · go_simp
                refine ⟨trivial, fun _ => by omega, (callsIn_wide.2 (ahead_any _ _ _)).mono ?_⟩
                rintro e W6 ⟨rfl, hW6⟩
                replace hW6 := hW6.symm
                subst hW6
                refine hK0 _ _ ?_
                clear hK0 K0
                (try simp only [Act.put, List.setIfInBounds_toArray, List.set_cons_zero, List.set_cons_succ])
                refine wpAnyIn_ready (rs := [10]) (by kernel_rfl) (by simp) ?_
                refine AllReadyIn.cons (o := { dst := some 23, op := Op.buildSlice 52 2 #[(0, Operand.tmp 17), (1, Operand.tmp 22)], type := 52, pos := "label.go:39", after := #[{ on := 4, ground := Ground.data }, { on := 9, ground := Ground.data }], guard := none }) rfl (fun K0 hK0 => ?_) ?_
                · go_simp
                  refine hK0 _ _ ?_
                  clear hK0 K0
                  (try simp only [Act.put, List.setIfInBounds_toArray, List.set_cons_zero, List.set_cons_succ])
                  refine wpAnyIn_ready (rs := [11]) (by kernel_rfl) (by simp) ?_
                  refine AllReadyIn.cons (o := { dst := some 24, op := Op.call { callee := Callee.value (Operand.func 20), args := #[Operand.tmp 23], argTypes := #[52] }, type := 3, pos := "label.go:39", after := #[{ on := 10, ground := Ground.data }, { on := 9, ground := Ground.chain }], guard := none }) rfl (fun K0 hK0 => ?_) ?_
                  · go_simp
                    refine ⟨trivial, fun _ => by omega, (callsIn_wide.2 (or_any (s3 x.1.1 x.2.1) (s3 x.1.2 x.2.2) W5.heap.size _ (cells2 W5 _ _ 3).1 (cells2 W5 _ _ 3).2)).mono ?_⟩
                    rintro e W6 ⟨rfl, hW6⟩
                    replace hW6 := hW6.symm
                    subst hW6
                    refine hK0 _ _ ?_
                    clear hK0 K0
                    (try simp only [Act.put, List.setIfInBounds_toArray, List.set_cons_zero, List.set_cons_succ])
                    refine wpAnyIn_ready (rs := [12]) (by kernel_rfl) (by simp) ?_
                    refine AllReadyIn.cons (o := { dst := some 7, op := Op.assign (Operand.tmp 24), type := 3, pos := "label.go:39", after := #[{ on := 11, ground := Ground.data }, { on := 11, ground := Ground.chain }, { on := 0, ground := Ground.phase }, { on := 1, ground := Ground.phase }, { on := 2, ground := Ground.phase }, { on := 3, ground := Ground.phase }, { on := 4, ground := Ground.phase }, { on := 5, ground := Ground.phase }, { on := 6, ground := Ground.phase }, { on := 7, ground := Ground.phase }, { on := 8, ground := Ground.phase }, { on := 9, ground := Ground.phase }, { on := 10, ground := Ground.phase }, { on := 11, ground := Ground.phase }], guard := none }) rfl (fun K0 hK0 => ?_) ?_
                    · go_simp
                      refine hK0 _ _ ?_
                      clear hK0 K0
                      (try simp only [Act.put, List.setIfInBounds_toArray, List.set_cons_zero, List.set_cons_succ])
                      refine wpAnyIn_done (by kernel_rfl) ?_ _
                      have b6 := hb5.out.alloc (.cells #[.int .i64 (s3 x.1.1 x.2.1), .int .i64 (s3 x.1.2 x.2.2)] 3)
                      have B6 := hide (B5.out.alloc B5.out.size (.cells #[.int .i64 (s3 x.1.1 x.2.1), .int .i64 (s3 x.1.2 x.2.2)] 3))
                      have N6 := hide (N5.out.alloc B5.out.size (.cells #[.int .i64 (s3 x.1.1 x.2.1), .int .i64 (s3 x.1.2 x.2.2)] 3))
                      have M6 := hide (M5.out.trans (KeepsOthers.alloc W5 (.cells #[.int .i64 (s3 x.1.1 x.2.1), .int .i64 (s3 x.1.2 x.2.2)] 3)))
                      generalize W5.alloc (.cells #[.int .i64 (s3 x.1.1 x.2.1), .int .i64 (s3 x.1.2 x.2.2)] 3) = W6 at b6 B6 N6 M6 ⊢
                      have q6 := b6.cell
                      have f6 := b6.frozen
                      replace b6 := hide b6
                      clear x0 x1 x2 x3 hW5 B5 N5 M5 hb5
                      rcases Decidable.em (or2 (s3 x.1.1 x.2.1) (s3 x.1.2 x.2.2) = 0) with hq | hq
                      · gi_wp2
                        exact ⟨M6.out.from _, N6.out, ⟨fun y hy => by
                          rcases List.mem_append.1 hy with h | h
                          · exact hz.out y h
                          · rw [List.mem_singleton.1 h]; exact hq, b6.out⟩, B6.out⟩
                      · gi_wp2
                        exact ⟨(M6.out.trans (KeepsOthers.setCell _ _ _)).from _, rfl, ⟨pre, x, rfl, hz.out, hq, b6.out.set _⟩, (BB.trans (B6.out.mono (Nat.le_of_lt zz))).setCell (Nat.le_refl _) _⟩
                    exact AllReadyIn.nil
                  exact AllReadyIn.nil
                exact AllReadyIn.nil
              exact AllReadyIn.nil
            exact AllReadyIn.nil
          exact AllReadyIn.nil
        exact AllReadyIn.nil
      exact AllReadyIn.nil
    refine AllReadyIn.cons (o := { dst := some 16, op := Op.load 9 (Operand.tmp 15), type := 9, pos := "label.go:39", after := #[{ on := 2, ground := Ground.data }], guard := none }) rfl (fun K0 hK0 => ?_) ?_
    · go_simp
      refine hK0 _ _ ?_
      clear hK0 K0
      (try simp only [Act.put, List.setIfInBounds_toArray, List.set_cons_zero, List.set_cons_succ])
      refine wpAnyIn_ready (rs := [1, 6, 8]) (by kernel_rfl) (by simp) ?_
      refine AllReadyIn.cons (o := { dst := some 14, op := Op.load 9 (Operand.tmp 13), type := 9, pos := "label.go:39", after := #[{ on := 0, ground := Ground.data }], guard := none }) rfl (fun K0 hK0 => ?_) ?_
      · go_simp
        refine hK0 _ _ ?_
        clear hK0 K0
        (try simp only [Act.put, List.setIfInBounds_toArray, List.set_cons_zero, List.set_cons_succ])
        refine wpAnyIn_ready (rs := [4, 6, 8]) (by kernel_rfl) (by simp) ?_
        refine AllReadyIn.cons (o := { dst := some 17, op := Op.call { callee := Callee.value (Operand.func 21), args := #[Operand.tmp 14, Operand.tmp 16], argTypes := #[9, 9] }, type := 3, pos := "label.go:39", after := #[{ on := 1, ground := Ground.data }, { on := 3, ground := Ground.data }], guard := none }) rfl (fun K0 hK0 => ?_) ?_
        · go_simp
          refine ⟨trivial, fun _ => by omega, (callsIn_wide.2 (ahead_any _ _ _)).mono ?_⟩
          rintro e W6 ⟨rfl, hW6⟩
          replace hW6 := hW6.symm
          subst hW6
          refine hK0 _ _ ?_
          clear hK0 K0
          (try simp only [Act.put, List.setIfInBounds_toArray, List.set_cons_zero, List.set_cons_succ])
          refine wpAnyIn_ready (rs := [6, 8]) (by kernel_rfl) (by simp) ?_
          refine AllReadyIn.cons (o := { dst := some 19, op := Op.load 9 (Operand.tmp 18), type := 9, pos := "label.go:39", after := #[{ on := 5, ground := Ground.data }], guard := none }) rfl (fun K0 hK0 => ?_) ?_
          · go_simp
            refine hK0 _ _ ?_
            clear hK0 K0
            (try simp only [Act.put, List.setIfInBounds_toArray, List.set_cons_zero, List.set_cons_succ])
            refine wpAnyIn_ready (rs := [8]) (by kernel_rfl) (by simp) ?_
            refine AllReadyIn.cons (o := { dst := some 21, op := Op.load 9 (Operand.tmp 20), type := 9, pos := "label.go:39", after := #[{ on := 7, ground := Ground.data }], guard := none }) rfl (fun K0 hK0 => ?_) ?_
            · go_simp
              refine hK0 _ _ ?_
              clear hK0 K0
              (try simp only [Act.put, List.setIfInBounds_toArray, List.set_cons_zero, List.set_cons_succ])
              refine wpAnyIn_ready (rs := [9]) (by kernel_rfl) (by simp) ?_
              refine AllReadyIn.cons (o := { dst := some 22, op := Op.call { callee := Callee.value (Operand.func 21), args := #[Operand.tmp 19, Operand.tmp 21], argTypes := #[9, 9] }, type := 3, pos := "label.go:39", after := #[{ on := 6, ground := Ground.data }, { on := 8, ground := Ground.data }, { on := 4, ground := Ground.chain }], guard := none }) rfl (fun K0 hK0 => ?_) ?_
              · go_simp
                refine ⟨trivial, fun _ => by omega, (callsIn_wide.2 (ahead_any _ _ _)).mono ?_⟩
                rintro e W6 ⟨rfl, hW6⟩
                replace hW6 := hW6.symm
                subst hW6
                refine hK0 _ _ ?_
                clear hK0 K0
                (try simp only [Act.put, List.setIfInBounds_toArray, List.set_cons_zero, List.set_cons_succ])
                refine wpAnyIn_ready (rs := [10]) (by kernel_rfl) (by simp) ?_
                refine AllReadyIn.cons (o := { dst := some 23, op := Op.buildSlice 52 2 #[(0, Operand.tmp 17), (1, Operand.tmp 22)], type := 52, pos := "label.go:39", after := #[{ on := 4, ground := Ground.data }, { on := 9, ground := Ground.data }], guard := none }) rfl (fun K0 hK0 => ?_) ?_
                · go_simp
                  refine hK0 _ _ ?_
                  clear hK0 K0
                  (try simp only [Act.put, List.setIfInBounds_toArray, List.set_cons_zero, List.set_cons_succ])
                  refine wpAnyIn_ready (rs := [11]) (by kernel_rfl) (by simp) ?_
                  refine AllReadyIn.cons (o := { dst := some 24, op := Op.call { callee := Callee.value (Operand.func 20), args := #[Operand.tmp 23], argTypes := #[52] }, type := 3, pos := "label.go:39", after := #[{ on := 10, ground := Ground.data }, { on := 9, ground := Ground.chain }], guard := none }) rfl (fun K0 hK0 => ?_) ?_
                  · go_simp
                    refine ⟨trivial, fun _ => by omega, (callsIn_wide.2 (or_any (s3 x.1.1 x.2.1) (s3 x.1.2 x.2.2) W5.heap.size _ (cells2 W5 _ _ 3).1 (cells2 W5 _ _ 3).2)).mono ?_⟩
                    rintro e W6 ⟨rfl, hW6⟩
                    replace hW6 := hW6.symm
                    subst hW6
                    refine hK0 _ _ ?_
                    clear hK0 K0
                    (try simp only [Act.put, List.setIfInBounds_toArray, List.set_cons_zero, List.set_cons_succ])
                    refine wpAnyIn_ready (rs := [12]) (by kernel_rfl) (by simp) ?_
                    refine AllReadyIn.cons (o := { dst := some 7, op := Op.assign (Operand.tmp 24), type := 3, pos := "label.go:39", after := #[{ on := 11, ground := Ground.data }, { on := 11, ground := Ground.chain }, { on := 0, ground := Ground.phase }, { on := 1, ground := Ground.phase }, { on := 2, ground := Ground.phase }, { on := 3, ground := Ground.phase }, { on := 4, ground := Ground.phase }, { on := 5, ground := Ground.phase }, { on := 6, ground := Ground.phase }, { on := 7, ground := Ground.phase }, { on := 8, ground := Ground.phase }, { on := 9, ground := Ground.phase }, { on := 10, ground := Ground.phase }, { on := 11, ground := Ground.phase }], guard := none }) rfl (fun K0 hK0 => ?_) ?_
                    · go_simp
                      refine hK0 _ _ ?_
                      clear hK0 K0
                      (try simp only [Act.put, List.setIfInBounds_toArray, List.set_cons_zero, List.set_cons_succ])
                      refine wpAnyIn_done (by kernel_rfl) ?_ _
                      have b6 := hb5.out.alloc (.cells #[.int .i64 (s3 x.1.1 x.2.1), .int .i64 (s3 x.1.2 x.2.2)] 3)
                      have B6 := hide (B5.out.alloc B5.out.size (.cells #[.int .i64 (s3 x.1.1 x.2.1), .int .i64 (s3 x.1.2 x.2.2)] 3))
                      have N6 := hide (N5.out.alloc B5.out.size (.cells #[.int .i64 (s3 x.1.1 x.2.1), .int .i64 (s3 x.1.2 x.2.2)] 3))
                      have M6 := hide (M5.out.trans (KeepsOthers.alloc W5 (.cells #[.int .i64 (s3 x.1.1 x.2.1), .int .i64 (s3 x.1.2 x.2.2)] 3)))
                      generalize W5.alloc (.cells #[.int .i64 (s3 x.1.1 x.2.1), .int .i64 (s3 x.1.2 x.2.2)] 3) = W6 at b6 B6 N6 M6 ⊢
                      have q6 := b6.cell
                      have f6 := b6.frozen
                      replace b6 := hide b6
                      clear x0 x1 x2 x3 hW5 B5 N5 M5 hb5
                      rcases Decidable.em (or2 (s3 x.1.1 x.2.1) (s3 x.1.2 x.2.2) = 0) with hq | hq
                      · gi_wp2
                        exact ⟨M6.out.from _, N6.out, ⟨fun y hy => by
                          rcases List.mem_append.1 hy with h | h
                          · exact hz.out y h
                          · rw [List.mem_singleton.1 h]; exact hq, b6.out⟩, B6.out⟩
                      · gi_wp2
                        exact ⟨(M6.out.trans (KeepsOthers.setCell _ _ _)).from _, rfl, ⟨pre, x, rfl, hz.out, hq, b6.out.set _⟩, (BB.trans (B6.out.mono (Nat.le_of_lt zz))).setCell (Nat.le_refl _) _⟩
                    exact AllReadyIn.nil
                  exact AllReadyIn.nil
                exact AllReadyIn.nil
              exact AllReadyIn.nil
            exact AllReadyIn.nil
          refine AllReadyIn.cons (o := { dst := some 21, op := Op.load 9 (Operand.tmp 20), type := 9, pos := "label.go:39", after := #[{ on := 7, ground := Ground.data }], guard := none }) rfl (fun K0 hK0 => ?_) ?_
          · go_simp
            refine hK0 _ _ ?_
            clear hK0 K0
            (try simp only [Act.put, List.setIfInBounds_toArray, List.set_cons_zero, List.set_cons_succ])
            refine wpAnyIn_ready (rs := [6]) (by kernel_rfl) (by simp) ?_
            refine AllReadyIn.cons (o := { dst := some 19, op := Op.load 9 (Operand.tmp 18), type := 9, pos := "label.go:39", after := #[{ on := 5, ground := Ground.data }], guard := none }) rfl (fun K0 hK0 => ?_) ?_
            · go_simp
              refine hK0 _ _ ?_
              clear hK0 K0
              (try simp only [Act.put, List.setIfInBounds_toArray, List.set_cons_zero, List.set_cons_succ])
              refine wpAnyIn_ready (rs := [9]) (by kernel_rfl) (by simp) ?_
              refine AllReadyIn.cons (o := { dst := some 22, op := Op.call { callee := Callee.value (Operand.func 21), args := #[Operand.tmp 19, Operand.tmp 21], argTypes := #[9, 9] }, type := 3, pos := "label.go:39", after := #[{ on := 6, ground := Ground.data }, { on := 8, ground := Ground.data }, { on := 4, ground := Ground.chain }], guard := none }) rfl (fun K0 hK0 => ?_) ?_
              · go_simp
                refine ⟨trivial, fun _ => by omega, (callsIn_wide.2 (ahead_any _ _ _)).mono ?_⟩
                rintro e W6 ⟨rfl, hW6⟩
                replace hW6 := hW6.symm
                subst hW6
                refine hK0 _ _ ?_
                clear hK0 K0
                (try simp only [Act.put, List.setIfInBounds_toArray, List.set_cons_zero, List.set_cons_succ])
                refine wpAnyIn_ready (rs := [10]) (by kernel_rfl) (by simp) ?_
                refine AllReadyIn.cons (o := { dst := some 23, op := Op.buildSlice 52 2 #[(0, Operand.tmp 17), (1, Operand.tmp 22)], type := 52, pos := "label.go:39", after := #[{ on := 4, ground := Ground.data }, { on := 9, ground := Ground.data }], guard := none }) rfl (fun K0 hK0 => ?_) ?_
                · go_simp
                  refine hK0 _ _ ?_
                  clear hK0 K0
                  (try simp only [Act.put, List.setIfInBounds_toArray, List.set_cons_zero, List.set_cons_succ])
                  refine wpAnyIn_ready (rs := [11]) (by kernel_rfl) (by simp) ?_
                  refine AllReadyIn.cons (o := { dst := some 24, op := Op.call { callee := Callee.value (Operand.func 20), args := #[Operand.tmp 23], argTypes := #[52] }, type := 3, pos := "label.go:39", after := #[{ on := 10, ground := Ground.data }, { on := 9, ground := Ground.chain }], guard := none }) rfl (fun K0 hK0 => ?_) ?_
                  · go_simp
                    refine ⟨trivial, fun _ => by omega, (callsIn_wide.2 (or_any (s3 x.1.1 x.2.1) (s3 x.1.2 x.2.2) W5.heap.size _ (cells2 W5 _ _ 3).1 (cells2 W5 _ _ 3).2)).mono ?_⟩
                    rintro e W6 ⟨rfl, hW6⟩
                    replace hW6 := hW6.symm
                    subst hW6
                    refine hK0 _ _ ?_
                    clear hK0 K0
                    (try simp only [Act.put, List.setIfInBounds_toArray, List.set_cons_zero, List.set_cons_succ])
                    refine wpAnyIn_ready (rs := [12]) (by kernel_rfl) (by simp) ?_
                    refine AllReadyIn.cons (o := { dst := some 7, op := Op.assign (Operand.tmp 24), type := 3, pos := "label.go:39", after := #[{ on := 11, ground := Ground.data }, { on := 11, ground := Ground.chain }, { on := 0, ground := Ground.phase }, { on := 1, ground := Ground.phase }, { on := 2, ground := Ground.phase }, { on := 3, ground := Ground.phase }, { on := 4, ground := Ground.phase }, { on := 5, ground := Ground.phase }, { on := 6, ground := Ground.phase }, { on := 7, ground := Ground.phase }, { on := 8, ground := Ground.phase }, { on := 9, ground := Ground.phase }, { on := 10, ground := Ground.phase }, { on := 11, ground := Ground.phase }], guard := none }) rfl (fun K0 hK0 => ?_) ?_
                    · go_simp
                      refine hK0 _ _ ?_
                      clear hK0 K0
                      (try simp only [Act.put, List.setIfInBounds_toArray, List.set_cons_zero, List.set_cons_succ])
                      refine wpAnyIn_done (by kernel_rfl) ?_ _
                      have b6 := hb5.out.alloc (.cells #[.int .i64 (s3 x.1.1 x.2.1), .int .i64 (s3 x.1.2 x.2.2)] 3)
                      have B6 := hide (B5.out.alloc B5.out.size (.cells #[.int .i64 (s3 x.1.1 x.2.1), .int .i64 (s3 x.1.2 x.2.2)] 3))
                      have N6 := hide (N5.out.alloc B5.out.size (.cells #[.int .i64 (s3 x.1.1 x.2.1), .int .i64 (s3 x.1.2 x.2.2)] 3))
                      have M6 := hide (M5.out.trans (KeepsOthers.alloc W5 (.cells #[.int .i64 (s3 x.1.1 x.2.1), .int .i64 (s3 x.1.2 x.2.2)] 3)))
                      generalize W5.alloc (.cells #[.int .i64 (s3 x.1.1 x.2.1), .int .i64 (s3 x.1.2 x.2.2)] 3) = W6 at b6 B6 N6 M6 ⊢
                      have q6 := b6.cell
                      have f6 := b6.frozen
                      replace b6 := hide b6
                      clear x0 x1 x2 x3 hW5 B5 N5 M5 hb5
                      rcases Decidable.em (or2 (s3 x.1.1 x.2.1) (s3 x.1.2 x.2.2) = 0) with hq | hq
                      · gi_wp2
                        exact ⟨M6.out.from _, N6.out, ⟨fun y hy => by
                          rcases List.mem_append.1 hy with h | h
                          · exact hz.out y h
                          · rw [List.mem_singleton.1 h]; exact hq, b6.out⟩, B6.out⟩
                      · gi_wp2
                        exact ⟨(M6.out.trans (KeepsOthers.setCell _ _ _)).from _, rfl, ⟨pre, x, rfl, hz.out, hq, b6.out.set _⟩, (BB.trans (B6.out.mono (Nat.le_of_lt zz))).setCell (Nat.le_refl _) _⟩
                    exact AllReadyIn.nil
                  exact AllReadyIn.nil
                exact AllReadyIn.nil
              exact AllReadyIn.nil
            exact AllReadyIn.nil
          exact AllReadyIn.nil
        refine AllReadyIn.cons (o := { dst := some 19, op := Op.load 9 (Operand.tmp 18), type := 9, pos := "label.go:39", after := #[{ on := 5, ground := Ground.data }], guard := none }) rfl (fun K0 hK0 => ?_) ?_
        · go_simp
          refine hK0 _ _ ?_
          clear hK0 K0
          (try simp only [Act.put, List.setIfInBounds_toArray, List.set_cons_zero, List.set_cons_succ])
          refine wpAnyIn_ready (rs := [4, 8]) (by kernel_rfl) (by simp) ?_
          refine AllReadyIn.cons (o := { dst := some 17, op := Op.call { callee := Callee.value (Operand.func 21), args := #[Operand.tmp 14, Operand.tmp 16], argTypes := #[9, 9] }, type := 3, pos := "label.go:39", after := #[{ on := 1, ground := Ground.data }, { on := 3, ground := Ground.data }], guard := none }) rfl (fun K0 hK0 => ?_) ?_
          · go_simp
            refine ⟨trivial, fun _ => by omega, (callsIn_wide.2 (ahead_any _ _ _)).mono ?_⟩
            rintro e W6 ⟨rfl, hW6⟩
            replace hW6 := hW6.symm
            subst hW6
            refine hK0 _ _ ?_
            clear hK0 K0
            (try simp only [Act.put, List.setIfInBounds_toArray, List.set_cons_zero, List.set_cons_succ])
            refine wpAnyIn_ready (rs := [8]) (by kernel_rfl) (by simp) ?_
            refine AllReadyIn.cons (o := { dst := some 21, op := Op.load 9 (Operand.tmp 20), type := 9, pos := "label.go:39", after := #[{ on := 7, ground := Ground.data }], guard := none }) rfl (fun K0 hK0 => ?_) ?_
            · go_simp
              refine hK0 _ _ ?_
              clear hK0 K0
              (try simp only [Act.put, List.setIfInBounds_toArray, List.set_cons_zero, List.set_cons_succ])
              refine wpAnyIn_ready (rs := [9]) (by kernel_rfl) (by simp) ?_
              refine AllReadyIn.cons (o := { dst := some 22, op := Op.call { callee := Callee.value (Operand.func 21), args := #[Operand.tmp 19, Operand.tmp 21], argTypes := #[9, 9] }, type := 3, pos := "label.go:39", after := #[{ on := 6, ground := Ground.data }, { on := 8, ground := Ground.data }, { on := 4, ground := Ground.chain }], guard := none }) rfl (fun K0 hK0 => ?_) ?_
              · go_simp
                refine ⟨trivial, fun _ => by omega, (callsIn_wide.2 (ahead_any _ _ _)).mono ?_⟩
                rintro e W6 ⟨rfl, hW6⟩
                replace hW6 := hW6.symm
                subst hW6
                refine hK0 _ _ ?_
                clear hK0 K0
                (try simp only [Act.put, List.setIfInBounds_toArray, List.set_cons_zero, List.set_cons_succ])
                refine wpAnyIn_ready (rs := [10]) (by kernel_rfl) (by simp) ?_
                refine AllReadyIn.cons (o := { dst := some 23, op := Op.buildSlice 52 2 #[(0, Operand.tmp 17), (1, Operand.tmp 22)], type := 52, pos := "label.go:39", after := #[{ on := 4, ground := Ground.data }, { on := 9, ground := Ground.data }], guard := none }) rfl (fun K0 hK0 => ?_) ?_
                · go_simp
                  refine hK0 _ _ ?_
                  clear hK0 K0
                  (try simp only [Act.put, List.setIfInBounds_toArray, List.set_cons_zero, List.set_cons_succ])
                  refine wpAnyIn_ready (rs := [11]) (by kernel_rfl) (by simp) ?_
                  refine AllReadyIn.cons (o := { dst := some 24, op := Op.call { callee := Callee.value (Operand.func 20), args := #[Operand.tmp 23], argTypes := #[52] }, type := 3, pos := "label.go:39", after := #[{ on := 10, ground := Ground.data }, { on := 9, ground := Ground.chain }], guard := none }) rfl (fun K0 hK0 => ?_) ?_
                  · go_simp
                    refine ⟨trivial, fun _ => by omega, (callsIn_wide.2 (or_any (s3 x.1.1 x.2.1) (s3 x.1.2 x.2.2) W5.heap.size _ (cells2 W5 _ _ 3).1 (cells2 W5 _ _ 3).2)).mono ?_⟩
                    rintro e W6 ⟨rfl, hW6⟩
                    replace hW6 := hW6.symm
                    subst hW6
                    refine hK0 _ _ ?_
                    clear hK0 K0
                    (try simp only [Act.put, List.setIfInBounds_toArray, List.set_cons_zero, List.set_cons_succ])
                    refine wpAnyIn_ready (rs := [12]) (by kernel_rfl) (by simp) ?_
                    refine AllReadyIn.cons (o := { dst := some 7, op := Op.assign (Operand.tmp 24), type := 3, pos := "label.go:39", after := #[{ on := 11, ground := Ground.data }, { on := 11, ground := Ground.chain }, { on := 0, ground := Ground.phase }, { on := 1, ground := Ground.phase }, { on := 2, ground := Ground.phase }, { on := 3, ground := Ground.phase }, { on := 4, ground := Ground.phase }, { on := 5, ground := Ground.phase }, { on := 6, ground := Ground.phase }, { on := 7, ground := Ground.phase }, { on := 8, ground := Ground.phase }, { on := 9, ground := Ground.phase }, { on := 10, ground := Ground.phase }, { on := 11, ground := Ground.phase }], guard := none }) rfl (fun K0 hK0 => ?_) ?_
                    · go_simp
                      refine hK0 _ _ ?_
                      clear hK0 K0
                      (try simp only [Act.put, List.setIfInBounds_toArray, List.set_cons_zero, List.set_cons_succ])
                      refine wpAnyIn_done (by kernel_rfl) ?_ _
                      have b6 := hb5.out.alloc (.cells #[.int .i64 (s3 x.1.1 x.2.1), .int .i64 (s3 x.1.2 x.2.2)] 3)
                      have B6 := hide (B5.out.alloc B5.out.size (.cells #[.int .i64 (s3 x.1.1 x.2.1), .int .i64 (s3 x.1.2 x.2.2)] 3))
                      have N6 := hide (N5.out.alloc B5.out.size (.cells #[.int .i64 (s3 x.1.1 x.2.1), .int .i64 (s3 x.1.2 x.2.2)] 3))
                      have M6 := hide (M5.out.trans (KeepsOthers.alloc W5 (.cells #[.int .i64 (s3 x.1.1 x.2.1), .int .i64 (s3 x.1.2 x.2.2)] 3)))
                      generalize W5.alloc (.cells #[.int .i64 (s3 x.1.1 x.2.1), .int .i64 (s3 x.1.2 x.2.2)] 3) = W6 at b6 B6 N6 M6 ⊢
                      have q6 := b6.cell
                      have f6 := b6.frozen
                      replace b6 := hide b6
                      clear x0 x1 x2 x3 hW5 B5 N5 M5 hb5
                      rcases Decidable.em (or2 (s3 x.1.1 x.2.1) (s3 x.1.2 x.2.2) = 0) with hq | hq
                      · gi_wp2
                        exact ⟨M6.out.from _, N6.out, ⟨fun y hy => by
                          rcases List.mem_append.1 hy with h | h
                          · exact hz.out y h
                          · rw [List.mem_singleton.1 h]; exact hq, b6.out⟩, B6.out⟩
                      · gi_wp2
                        exact ⟨(M6.out.trans (KeepsOthers.setCell _ _ _)).from _, rfl, ⟨pre, x, rfl, hz.out, hq, b6.out.set _⟩, (BB.trans (B6.out.mono (Nat.le_of_lt zz))).setCell (Nat.le_refl _) _⟩
                    exact AllReadyIn.nil
                  exact AllReadyIn.nil
                exact AllReadyIn.nil
              exact AllReadyIn.nil
            exact AllReadyIn.nil
          refine AllReadyIn.cons (o := { dst := some 21, op := Op.load 9 (Operand.tmp 20), type := 9, pos := "label.go:39", after := #[{ on := 7, ground := Ground.data }], guard := none }) rfl (fun K0 hK0 => ?_) ?_
          · go_simp
            refine hK0 _ _ ?_
            clear hK0 K0
            (try simp only [Act.put, List.setIfInBounds_toArray, List.set_cons_zero, List.set_cons_succ])
            refine wpAnyIn_ready (rs := [4]) (by kernel_rfl) (by simp) ?_
            refine AllReadyIn.cons (o := { dst := some 17, op := Op.call { callee := Callee.value (Operand.func 21), args := #[Operand.tmp 14, Operand.tmp 16], argTypes := #[9, 9] }, type := 3, pos := "label.go:39", after := #[{ on := 1, ground := Ground.data }, { on := 3, ground := Ground.data }], guard := none }) rfl (fun K0 hK0 => ?_) ?_
            · go_simp
              refine ⟨trivial, fun _ => by omega, (callsIn_wide.2 (ahead_any _ _ _)).mono ?_⟩
              rintro e W6 ⟨rfl, hW6⟩
              replace hW6 := hW6.symm
              subst hW6
              refine hK0 _ _ ?_
              clear hK0 K0
              (try simp only [Act.put, List.setIfInBounds_toArray, List.set_cons_zero, List.set_cons_succ])
              refine wpAnyIn_ready (rs := [9]) (by kernel_rfl) (by simp) ?_
              refine AllReadyIn.cons (o := { dst := some 22, op := Op.call { callee := Callee.value (Operand.func 21), args := #[Operand.tmp 19, Operand.tmp 21], argTypes := #[9, 9] }, type := 3, pos := "label.go:39", after := #[{ on := 6, ground := Ground.data }, { on := 8, ground := Ground.data }, { on := 4, ground := Ground.chain }], guard := none }) rfl (fun K0 hK0 => ?_) ?_
              · go_simp
                refine ⟨trivial, fun _ => by omega, (callsIn_wide.2 (ahead_any _ _ _)).mono ?_⟩
                rintro e W6 ⟨rfl, hW6⟩
                replace hW6 := hW6.symm
                subst hW6
                refine hK0 _ _ ?_
                clear hK0 K0
                (try simp only [Act.put, List.setIfInBounds_toArray, List.set_cons_zero, List.set_cons_succ])
                refine wpAnyIn_ready (rs := [10]) (by kernel_rfl) (by simp) ?_
                refine AllReadyIn.cons (o := { dst := some 23, op := Op.buildSlice 52 2 #[(0, Operand.tmp 17), (1, Operand.tmp 22)], type := 52, pos := "label.go:39", after := #[{ on := 4, ground := Ground.data }, { on := 9, ground := Ground.data }], guard := none }) rfl (fun K0 hK0 => ?_) ?_
                · go_simp
                  refine hK0 _ _ ?_
                  clear hK0 K0
                  (try simp only [Act.put, List.setIfInBounds_toArray, List.set_cons_zero, List.set_cons_succ])
                  refine wpAnyIn_ready (rs := [11]) (by kernel_rfl) (by simp) ?_
                  refine AllReadyIn.cons (o := { dst := some 24, op := Op.call { callee := Callee.value (Operand.func 20), args := #[Operand.tmp 23], argTypes := #[52] }, type := 3, pos := "label.go:39", after := #[{ on := 10, ground := Ground.data }, { on := 9, ground := Ground.chain }], guard := none }) rfl (fun K0 hK0 => ?_) ?_
                  · go_simp
                    refine ⟨trivial, fun _ => by omega, (callsIn_wide.2 (or_any (s3 x.1.1 x.2.1) (s3 x.1.2 x.2.2) W5.heap.size _ (cells2 W5 _ _ 3).1 (cells2 W5 _ _ 3).2)).mono ?_⟩
                    rintro e W6 ⟨rfl, hW6⟩
                    replace hW6 := hW6.symm
                    subst hW6
                    refine hK0 _ _ ?_
                    clear hK0 K0
                    (try simp only [Act.put, List.setIfInBounds_toArray, List.set_cons_zero, List.set_cons_succ])
                    refine wpAnyIn_ready (rs := [12]) (by kernel_rfl) (by simp) ?_
                    refine AllReadyIn.cons (o := { dst := some 7, op := Op.assign (Operand.tmp 24), type := 3, pos := "label.go:39", after := #[{ on := 11, ground := Ground.data }, { on := 11, ground := Ground.chain }, { on := 0, ground := Ground.phase }, { on := 1, ground := Ground.phase }, { on := 2, ground := Ground.phase }, { on := 3, ground := Ground.phase }, { on := 4, ground := Ground.phase }, { on := 5, ground := Ground.phase }, { on := 6, ground := Ground.phase }, { on := 7, ground := Ground.phase }, { on := 8, ground := Ground.phase }, { on := 9, ground := Ground.phase }, { on := 10, ground := Ground.phase }, { on := 11, ground := Ground.phase }], guard := none }) rfl (fun K0 hK0 => ?_) ?_
                    · go_simp
                      refine hK0 _ _ ?_
                      clear hK0 K0
                      (try simp only [Act.put, List.setIfInBounds_toArray, List.set_cons_zero, List.set_cons_succ])
                      refine wpAnyIn_done (by kernel_rfl) ?_ _
                      have b6 := hb5.out.alloc (.cells #[.int .i64 (s3 x.1.1 x.2.1), .int .i64 (s3 x.1.2 x.2.2)] 3)
                      have B6 := hide (B5.out.alloc B5.out.size (.cells #[.int .i64 (s3 x.1.1 x.2.1), .int .i64 (s3 x.1.2 x.2.2)] 3))
                      have N6 := hide (N5.out.alloc B5.out.size (.cells #[.int .i64 (s3 x.1.1 x.2.1), .int .i64 (s3 x.1.2 x.2.2)] 3))
                      have M6 := hide (M5.out.trans (KeepsOthers.alloc W5 (.cells #[.int .i64 (s3 x.1.1 x.2.1), .int .i64 (s3 x.1.2 x.2.2)] 3)))
                      generalize W5.alloc (.cells #[.int .i64 (s3 x.1.1 x.2.1), .int .i64 (s3 x.1.2 x.2.2)] 3) = W6 at b6 B6 N6 M6 ⊢
                      have q6 := b6.cell
                      have f6 := b6.frozen
                      replace b6 := hide b6
                      clear x0 x1 x2 x3 hW5 B5 N5 M5 hb5
                      rcases Decidable.em (or2 (s3 x.1.1 x.2.1) (s3 x.1.2 x.2.2) = 0) with hq | hq
                      · gi_wp2
                        exact ⟨M6.out.from _, N6.out, ⟨fun y hy => by
                          rcases List.mem_append.1 hy with h | h
                          · exact hz.out y h
                          · rw [List.mem_singleton.1 h]; exact hq, b6.out⟩, B6.out⟩
                      · gi_wp2
                        exact ⟨(M6.out.trans (KeepsOthers.setCell _ _ _)).from _, rfl, ⟨pre, x, rfl, hz.out, hq, b6.out.set _⟩, (BB.trans (B6.out.mono (Nat.le_of_lt zz))).setCell (Nat.le_refl _) _⟩
                    exact AllReadyIn.nil
                  exact AllReadyIn.nil
                exact AllReadyIn.nil
              exact AllReadyIn.nil
            exact AllReadyIn.nil
          exact AllReadyIn.nil
        refine AllReadyIn.cons (o := { dst := some 21, op := Op.load 9 (Operand.tmp 20), type := 9, pos := "label.go:39", after := #[{ on := 7, ground := Ground.data }], guard := none }) rfl (fun K0 hK0 => ?_) ?_
        · go_simp
          refine hK0 _ _ ?_
          clear hK0 K0
          (try simp only [Act.put, List.setIfInBounds_toArray, List.set_cons_zero, List.set_cons_succ])
          refine wpAnyIn_ready (rs := [4, 6]) (by kernel_rfl) (by simp) ?_
          refine AllReadyIn.cons (o := { dst := some 17, op := Op.call { callee := Callee.value (Operand.func 21), args := #[Operand.tmp 14, Operand.tmp 16], argTypes := #[9, 9] }, type := 3, pos := "label.go:39", after := #[{ on := 1, ground := Ground.data }, { on := 3, ground := Ground.data }], guard := none }) rfl (fun K0 hK0 => ?_) ?_
          · go_simp
            refine ⟨trivial, fun _ => by omega, (callsIn_wide.2 (ahead_any _ _ _)).mono ?_⟩
            rintro e W6 ⟨rfl, hW6⟩
            replace hW6 := hW6.symm
            subst hW6
            refine hK0 _ _ ?_
            clear hK0 K0
            (try simp only [Act.put, List.setIfInBounds_toArray, List.set_cons_zero, List.set_cons_succ])
            refine wpAnyIn_ready (rs := [6]) (by kernel_rfl) (by simp) ?_
            refine AllReadyIn.cons (o := { dst := some 19, op := Op.load 9 (Operand.tmp 18), type := 9, pos := "label.go:39", after := #[{ on := 5, ground := Ground.data }], guard := none }) rfl (fun K0 hK0 => ?_) ?_
            · go_simp
              refine hK0 _ _ ?_
              clear hK0 K0
              (try simp only [Act.put, List.setIfInBounds_toArray, List.set_cons_zero, List.set_cons_succ])
              refine wpAnyIn_ready (rs := [9]) (by kernel_rfl) (by simp) ?_
              refine AllReadyIn.cons (o := { dst := some 22, op := Op.call { callee := Callee.value (Operand.func 21), args := #[Operand.tmp 19, Operand.tmp 21], argTypes := #[9, 9] }, type := 3, pos := "label.go:39", after := #[{ on := 6, ground := Ground.data }, { on := 8, ground := Ground.data }, { on := 4, ground := Ground.chain }], guard := none }) rfl (fun K0 hK0 => ?_) ?_
              · go_simp
                refine ⟨trivial, fun _ => by omega, (callsIn_wide.2 (ahead_any _ _ _)).mono ?_⟩
                rintro e W6 ⟨rfl, hW6⟩
                replace hW6 := hW6.symm
                subst hW6
                refine hK0 _ _ ?_
                clear hK0 K0
                (try simp only [Act.put, List.setIfInBounds_toArray, List.set_cons_zero, List.set_cons_succ])
                refine wpAnyIn_ready (rs := [10]) (by kernel_rfl) (by simp) ?_
                refine AllReadyIn.cons (o := { dst := some 23, op := Op.buildSlice 52 2 #[(0, Operand.tmp 17), (1, Operand.tmp 22)], type := 52, pos := "label.go:39", after := #[{ on := 4, ground := Ground.data }, { on := 9, ground := Ground.data }], guard := none }) rfl (fun K0 hK0 => ?_) ?_
                · go_simp
                  refine hK0 _ _ ?_
                  clear hK0 K0
                  (try simp only [Act.put, List.setIfInBounds_toArray, List.set_cons_zero, List.set_cons_succ])
                  refine wpAnyIn_ready (rs := [11]) (by kernel_rfl) (by simp) ?_
                  refine AllReadyIn.cons (o := { dst := some 24, op := Op.call { callee := Callee.value (Operand.func 20), args := #[Operand.tmp 23], argTypes := #[52] }, type := 3, pos := "label.go:39", after := #[{ on := 10, ground := Ground.data }, { on := 9, ground := Ground.chain }], guard := none }) rfl (fun K0 hK0 => ?_) ?_
                  · go_simp
                    refine ⟨trivial, fun _ => by omega, (callsIn_wide.2 (or_any (s3 x.1.1 x.2.1) (s3 x.1.2 x.2.2) W5.heap.size _ (cells2 W5 _ _ 3).1 (cells2 W5 _ _ 3).2)).mono ?_⟩
                    rintro e W6 ⟨rfl, hW6⟩
                    replace hW6 := hW6.symm
                    subst hW6
                    refine hK0 _ _ ?_
                    clear hK0 K0
                    (try simp only [Act.put, List.setIfInBounds_toArray, List.set_cons_zero, List.set_cons_succ])
                    refine wpAnyIn_ready (rs := [12]) (by kernel_rfl) (by simp) ?_
                    refine AllReadyIn.cons (o := { dst := some 7, op := Op.assign (Operand.tmp 24), type := 3, pos := "label.go:39", after := #[{ on := 11, ground := Ground.data }, { on := 11, ground := Ground.chain }, { on := 0, ground := Ground.phase }, { on := 1, ground := Ground.phase }, { on := 2, ground := Ground.phase }, { on := 3, ground := Ground.phase }, { on := 4, ground := Ground.phase }, { on := 5, ground := Ground.phase }, { on := 6, ground := Ground.phase }, { on := 7, ground := Ground.phase }, { on := 8, ground := Ground.phase }, { on := 9, ground := Ground.phase }, { on := 10, ground := Ground.phase }, { on := 11, ground := Ground.phase }], guard := none }) rfl (fun K0 hK0 => ?_) ?_
                    · go_simp
                      refine hK0 _ _ ?_
                      clear hK0 K0
                      (try simp only [Act.put, List.setIfInBounds_toArray, List.set_cons_zero, List.set_cons_succ])
                      refine wpAnyIn_done (by kernel_rfl) ?_ _
                      have b6 := hb5.out.alloc (.cells #[.int .i64 (s3 x.1.1 x.2.1), .int .i64 (s3 x.1.2 x.2.2)] 3)
                      have B6 := hide (B5.out.alloc B5.out.size (.cells #[.int .i64 (s3 x.1.1 x.2.1), .int .i64 (s3 x.1.2 x.2.2)] 3))
                      have N6 := hide (N5.out.alloc B5.out.size (.cells #[.int .i64 (s3 x.1.1 x.2.1), .int .i64 (s3 x.1.2 x.2.2)] 3))
                      have M6 := hide (M5.out.trans (KeepsOthers.alloc W5 (.cells #[.int .i64 (s3 x.1.1 x.2.1), .int .i64 (s3 x.1.2 x.2.2)] 3)))
                      generalize W5.alloc (.cells #[.int .i64 (s3 x.1.1 x.2.1), .int .i64 (s3 x.1.2 x.2.2)] 3) = W6 at b6 B6 N6 M6 ⊢
                      have q6 := b6.cell
                      have f6 := b6.frozen
                      replace b6 := hide b6
                      clear x0 x1 x2 x3 hW5 B5 N5 M5 hb5
                      rcases Decidable.em (or2 (s3 x.1.1 x.2.1) (s3 x.1.2 x.2.2) = 0) with hq | hq
                      · gi_wp2
                        exact ⟨M6.out.from _, N6.out, ⟨fun y hy => by
                          rcases List.mem_append.1 hy with h | h
                          · exact hz.out y h
                          · rw [List.mem_singleton.1 h]; exact hq, b6.out⟩, B6.out⟩
                      · gi_wp2
                        exact ⟨(M6.out.trans (KeepsOthers.setCell _ _ _)).from _, rfl, ⟨pre, x, rfl, hz.out, hq, b6.out.set _⟩, (BB.trans (B6.out.mono (Nat.le_of_lt zz))).setCell (Nat.le_refl _) _⟩
                    exact AllReadyIn.nil
                  exact AllReadyIn.nil
                exact AllReadyIn.nil
              exact AllReadyIn.nil
            exact AllReadyIn.nil
          refine AllReadyIn.cons (o := { dst := some 19, op := Op.load 9 (Operand.tmp 18), type := 9, pos := "label.go:39", after := #[{ on := 5, ground := Ground.data }], guard := none }) rfl (fun K0 hK0 => ?_) ?_
          · go_simp
            refine hK0 _ _ ?_
            clear hK0 K0
            (try simp only [Act.put, List.setIfInBounds_toArray, List.set_cons_zero, List.set_cons_succ])
            refine wpAnyIn_ready (rs := [4]) (by kernel_rfl) (by simp) ?_
            refine AllReadyIn.cons (o := { dst := some 17, op := Op.call { callee := Callee.value (Operand.func 21), args := #[Operand.tmp 14, Operand.tmp 16], argTypes := #[9, 9] }, type := 3, pos := "label.go:39", after := #[{ on := 1, ground := Ground.data }, { on := 3, ground := Ground.data }], guard := none }) rfl (fun K0 hK0 => ?_) ?_
            · go_simp
              refine ⟨trivial, fun _ => by omega, (callsIn_wide.2 (ahead_any _ _ _)).mono ?_⟩
              rintro e W6 ⟨rfl, hW6⟩
              replace hW6 := hW6.symm
              subst hW6
              refine hK0 _ _ ?_
              clear hK0 K0
              (try simp only [Act.put, List.setIfInBounds_toArray, List.set_cons_zero, List.set_cons_succ])
              refine wpAnyIn_ready (rs := [9]) (by kernel_rfl) (by simp) ?_
              refine AllReadyIn.cons (o := { dst := some 22, op := Op.call { callee := Callee.value (Operand.func 21), args := #[Operand.tmp 19, Operand.tmp 21], argTypes := #[9, 9] }, type := 3, pos := "label.go:39", after := #[{ on := 6, ground := Ground.data }, { on := 8, ground := Ground.data }, { on := 4, ground := Ground.chain }], guard := none }) rfl (fun K0 hK0 => ?_) ?_
              · go_simp
                refine ⟨trivial, fun _ => by omega, (callsIn_wide.2 (ahead_any _ _ _)).mono ?_⟩
                rintro e W6 ⟨rfl, hW6⟩
                replace hW6 := hW6.symm
                subst hW6
                refine hK0 _ _ ?_
                clear hK0 K0
                (try simp only [Act.put, List.setIfInBounds_toArray, List.set_cons_zero, List.set_cons_succ])
                refine wpAnyIn_ready (rs := [10]) (by kernel_rfl) (by simp) ?_
                refine AllReadyIn.cons (o := { dst := some 23, op := Op.buildSlice 52 2 #[(0, Operand.tmp 17), (1, Operand.tmp 22)], type := 52, pos := "label.go:39", after := #[{ on := 4, ground := Ground.data }, { on := 9, ground := Ground.data }], guard := none }) rfl (fun K0 hK0 => ?_) ?_
                · go_simp
                  refine hK0 _ _ ?_
                  clear hK0 K0
                  (try simp only [Act.put, List.setIfInBounds_toArray, List.set_cons_zero, List.set_cons_succ])
                  refine wpAnyIn_ready (rs := [11]) (by kernel_rfl) (by simp) ?_
                  refine AllReadyIn.cons (o := { dst := some 24, op := Op.call { callee := Callee.value (Operand.func 20), args := #[Operand.tmp 23], argTypes := #[52] }, type := 3, pos := "label.go:39", after := #[{ on := 10, ground := Ground.data }, { on := 9, ground := Ground.chain }], guard := none }) rfl (fun K0 hK0 => ?_) ?_
                  · go_simp
                    refine ⟨trivial, fun _ => by omega, (callsIn_wide.2 (or_any (s3 x.1.1 x.2.1) (s3 x.1.2 x.2.2) W5.heap.size _ (cells2 W5 _ _ 3).1 (cells2 W5 _ _ 3).2)).mono ?_⟩
                    rintro e W6 ⟨rfl, hW6⟩
                    replace hW6 := hW6.symm
                    subst hW6
                    refine hK0 _ _ ?_
                    clear hK0 K0
                    (try simp only [Act.put, List.setIfInBounds_toArray, List.set_cons_zero, List.set_cons_succ])
                    refine wpAnyIn_ready (rs := [12]) (by kernel_rfl) (by simp) ?_
                    refine AllReadyIn.cons (o := { dst := some 7, op := Op.assign (Operand.tmp 24), type := 3, pos := "label.go:39", after := #[{ on := 11, ground := Ground.data }, { on := 11, ground := Ground.chain }, { on := 0, ground := Ground.phase }, { on := 1, ground := Ground.phase }, { on := 2, ground := Ground.phase }, { on := 3, ground := Ground.phase }, { on := 4, ground := Ground.phase }, { on := 5, ground := Ground.phase }, { on := 6, ground := Ground.phase }, { on := 7, ground := Ground.phase }, { on := 8, ground := Ground.phase }, { on := 9, ground := Ground.phase }, { on := 10, ground := Ground.phase }, { on := 11, ground := Ground.phase }], guard := none }) rfl (fun K0 hK0 => ?_) ?_
                    · go_simp
                      refine hK0 _ _ ?_
                      clear hK0 K0
                      (try simp only [Act.put, List.setIfInBounds_toArray, List.set_cons_zero, List.set_cons_succ])
                      refine wpAnyIn_done (by kernel_rfl) ?_ _
                      have b6 := hb5.out.alloc (.cells #[.int .i64 (s3 x.1.1 x.2.1), .int .i64 (s3 x.1.2 x.2.2)] 3)
                      have B6 := hide (B5.out.alloc B5.out.size (.cells #[.int .i64 (s3 x.1.1 x.2.1), .int .i64 (s3 x.1.2 x.2.2)] 3))
                      have N6 := hide (N5.out.alloc B5.out.size (.cells #[.int .i64 (s3 x.1.1 x.2.1), .int .i64 (s3 x.1.2 x.2.2)] 3))
                      have M6 := hide (M5.out.trans (KeepsOthers.alloc W5 (.cells #[.int .i64 (s3 x.1.1 x.2.1), .int .i64 (s3 x.1.2 x.2.2)] 3)))
                      generalize W5.alloc (.cells #[.int .i64 (s3 x.1.1 x.2.1), .int .i64 (s3 x.1.2 x.2.2)] 3) = W6 at b6 B6 N6 M6 ⊢
                      have q6 := b6.cell
                      have f6 := b6.frozen
                      replace b6 := hide b6
                      clear x0 x1 x2 x3 hW5 B5 N5 M5 hb5
                      rcases Decidable.em (or2 (s3 x.1.1 x.2.1) (s3 x.1.2 x.2.2) = 0) with hq | hq
                      · gi_wp2
                        exact ⟨M6.out.from _, N6.out, ⟨fun y hy => by
                          rcases List.mem_append.1 hy with h | h
                          · exact hz.out y h
                          · rw [List.mem_singleton.1 h]; exact hq, b6.out⟩, B6.out⟩
                      · gi_wp2
                        exact ⟨(M6.out.trans (KeepsOthers.setCell _ _ _)).from _, rfl, ⟨pre, x, rfl, hz.out, hq, b6.out.set _⟩, (BB.trans (B6.out.mono (Nat.le_of_lt zz))).setCell (Nat.le_refl _) _⟩
                    exact AllReadyIn.nil
                  exact AllReadyIn.nil
                exact AllReadyIn.nil
              exact AllReadyIn.nil
            exact AllReadyIn.nil
          exact AllReadyIn.nil
        exact AllReadyIn.nil
      refine AllReadyIn.cons (o := { dst := some 19, op := Op.load 9 (Operand.tmp 18), type := 9, pos := "label.go:39", after := #[{ on := 5, ground := Ground.data }], guard := none }) rfl (fun K0 hK0 => ?_) ?_
      · go_simp
        refine hK0 _ _ ?_
        clear hK0 K0
        (try simp only [Act.put, List.setIfInBounds_toArray, List.set_cons_zero, List.set_cons_succ])
        refine wpAnyIn_ready (rs := [1, 8]) (by kernel_rfl) (by simp) ?_
        refine AllReadyIn.cons (o := { dst := some 14, op := Op.load 9 (Operand.tmp 13), type := 9, pos := "label.go:39", after := #[{ on := 0, ground := Ground.data }], guard := none }) rfl (fun K0 hK0 => ?_) ?_
        · go_simp
          refine hK0 _ _ ?_
          clear hK0 K0
          (try simp only [Act.put, List.setIfInBounds_toArray, List.set_cons_zero, List.set_cons_succ])
          refine wpAnyIn_ready (rs := [4, 8]) (by kernel_rfl) (by simp) ?_
          refine AllReadyIn.cons (o := { dst := some 17, op := Op.call { callee := Callee.value (Operand.func 21), args := #[Operand.tmp 14, Operand.tmp 16], argTypes := #[9, 9] }, type := 3, pos := "label.go:39", after := #[{ on := 1, ground := Ground.data }, { on := 3, ground := Ground.data }], guard := none }) rfl (fun K0 hK0 => ?_) ?_
          · go_simp
            refine ⟨trivial, fun _ => by omega, (callsIn_wide.2 (ahead_any _ _ _)).mono ?_⟩
            rintro e W6 ⟨rfl, hW6⟩
            replace hW6 := hW6.symm
            subst hW6
            refine hK0 _ _ ?_
            clear hK0 K0
            (try simp only [Act.put, List.setIfInBounds_toArray, List.set_cons_zero, List.set_cons_succ])
            refine wpAnyIn_ready (rs := [8]) (by kernel_rfl) (by simp) ?_
            refine AllReadyIn.cons (o := { dst := some 21, op := Op.load 9 (Operand.tmp 20), type := 9, pos := "label.go:39", after := #[{ on := 7, ground := Ground.data }], guard := none }) rfl (fun K0 hK0 => ?_) ?_
            · go_simp
              refine hK0 _ _ ?_
              clear hK0 K0
              (try simp only [Act.put, List.setIfInBounds_toArray, List.set_cons_zero, List.set_cons_succ])
              refine wpAnyIn_ready (rs := [9]) (by kernel_rfl) (by simp) ?_
              refine AllReadyIn.cons (o := { dst := some 22, op := Op.call { callee := Callee.value (Operand.func 21), args := #[Operand.tmp 19, Operand.tmp 21], argTypes := #[9, 9] }, type := 3, pos := "label.go:39", after := #[{ on := 6, ground := Ground.data }, { on := 8, ground := Ground.data }, { on := 4, ground := Ground.chain }], guard := none }) rfl (fun K0 hK0 => ?_) ?_
              · go_simp
                refine ⟨trivial, fun _ => by omega, (callsIn_wide.2 (ahead_any _ _ _)).mono ?_⟩
                rintro e W6 ⟨rfl, hW6⟩
                replace hW6 := hW6.symm
                subst hW6
                refine hK0 _ _ ?_
                clear hK0 K0
                (try simp only [Act.put, List.setIfInBounds_toArray, List.set_cons_zero, List.set_cons_succ])
                refine wpAnyIn_ready (rs := [10]) (by kernel_rfl) (by simp) ?_
                refine AllReadyIn.cons (o := { dst := some 23, op := Op.buildSlice 52 2 #[(0, Operand.tmp 17), (1, Operand.tmp 22)], type := 52, pos := "label.go:39", after := #[{ on := 4, ground := Ground.data }, { on := 9, ground := Ground.data }], guard := none }) rfl (fun K0 hK0 => ?_) ?_
                · go_simp
                  refine hK0 _ _ ?_
                  clear hK0 K0
                  (try simp only [Act.put, List.setIfInBounds_toArray, List.set_cons_zero, List.set_cons_succ])
                  refine wpAnyIn_ready (rs := [11]) (by kernel_rfl) (by simp) ?_
                  refine AllReadyIn.cons (o := { dst := some 24, op := Op.call { callee := Callee.value (Operand.func 20), args := #[Operand.tmp 23], argTypes := #[52] }, type := 3, pos := "label.go:39", after := #[{ on := 10, ground := Ground.data }, { on := 9, ground := Ground.chain }], guard := none }) rfl (fun K0 hK0 => ?_) ?_
                  · go_simp
                    refine ⟨trivial, fun _ => by omega, (callsIn_wide.2 (or_any (s3 x.1.1 x.2.1) (s3 x.1.2 x.2.2) W5.heap.size _ (cells2 W5 _ _ 3).1 (cells2 W5 _ _ 3).2)).mono ?_⟩
                    rintro e W6 ⟨rfl, hW6⟩
                    replace hW6 := hW6.symm
                    subst hW6
                    refine hK0 _ _ ?_
                    clear hK0 K0
                    (try simp only [Act.put, List.setIfInBounds_toArray, List.set_cons_zero, List.set_cons_succ])
                    refine wpAnyIn_ready (rs := [12]) (by kernel_rfl) (by simp) ?_
                    refine AllReadyIn.cons (o := { dst := some 7, op := Op.assign (Operand.tmp 24), type := 3, pos := "label.go:39", after := #[{ on := 11, ground := Ground.data }, { on := 11, ground := Ground.chain }, { on := 0, ground := Ground.phase }, { on := 1, ground := Ground.phase }, { on := 2, ground := Ground.phase }, { on := 3, ground := Ground.phase }, { on := 4, ground := Ground.phase }, { on := 5, ground := Ground.phase }, { on := 6, ground := Ground.phase }, { on := 7, ground := Ground.phase }, { on := 8, ground := Ground.phase }, { on := 9, ground := Ground.phase }, { on := 10, ground := Ground.phase }, { on := 11, ground := Ground.phase }], guard := none }) rfl (fun K0 hK0 => ?_) ?_
                    · go_simp
                      refine hK0 _ _ ?_
                      clear hK0 K0
                      (try simp only [Act.put, List.setIfInBounds_toArray, List.set_cons_zero, List.set_cons_succ])
                      refine wpAnyIn_done (by kernel_rfl) ?_ _
                      have b6 := hb5.out.alloc (.cells #[.int .i64 (s3 x.1.1 x.2.1), .int .i64 (s3 x.1.2 x.2.2)] 3)
                      have B6 := hide (B5.out.alloc B5.out.size (.cells #[.int .i64 (s3 x.1.1 x.2.1), .int .i64 (s3 x.1.2 x.2.2)] 3))
                      have N6 := hide (N5.out.alloc B5.out.size (.cells #[.int .i64 (s3 x.1.1 x.2.1), .int .i64 (s3 x.1.2 x.2.2)] 3))
                      have M6 := hide (M5.out.trans (KeepsOthers.alloc W5 (.cells #[.int .i64 (s3 x.1.1 x.2.1), .int .i64 (s3 x.1.2 x.2.2)] 3)))
                      generalize W5.alloc (.cells #[.int .i64 (s3 x.1.1 x.2.1), .int .i64 (s3 x.1.2 x.2.2)] 3) = W6 at b6 B6 N6 M6 ⊢
                      have q6 := b6.cell
                      have f6 := b6.frozen
                      replace b6 := hide b6
                      clear x0 x1 x2 x3 hW5 B5 N5 M5 hb5
                      rcases Decidable.em (or2 (s3 x.1.1 x.2.1) (s3 x.1.2 x.2.2) = 0) with hq | hq
                      · gi_wp2
                        exact ⟨M6.out.from _, N6.out, ⟨fun y hy => by
                          rcases List.mem_append.1 hy with h | h
                          · exact hz.out y h
                          · rw [List.mem_singleton.1 h]; exact hq, b6.out⟩, B6.out⟩
                      · gi_wp2
                        exact ⟨(M6.out.trans (KeepsOthers.setCell _ _ _)).from _, rfl, ⟨pre, x, rfl, hz.out, hq, b6.out.set _⟩, (BB.trans (B6.out.mono (Nat.le_of_lt zz))).setCell (Nat.le_refl _) _⟩
                    exact AllReadyIn.nil
                  exact AllReadyIn.nil
                exact AllReadyIn.nil
              exact AllReadyIn.nil
            exact AllReadyIn.nil
          refine AllReadyIn.cons (o := { dst := some 21, op := Op.load 9 (Operand.tmp 20), type := 9, pos := "label.go:39", after := #[{ on := 7, ground := Ground.data }], guard := none }) rfl (fun K0 hK0 => ?_) ?_
          · go_simp
            refine hK0 _ _ ?_
            clear hK0 K0
            (try simp only [Act.put, List.setIfInBounds_toArray, List.set_cons_zero, List.set_cons_succ])
            refine wpAnyIn_ready (rs := [4]) (by kernel_rfl) (by simp) ?_
            refine AllReadyIn.cons (o := { dst := some 17, op := Op.call { callee := Callee.value (Operand.func 21), args := #[Operand.tmp 14, Operand.tmp 16], argTypes := #[9, 9] }, type := 3, pos := "label.go:39", after := #[{ on := 1, ground := Ground.data }, { on := 3, ground := Ground.data }], guard := none }) rfl (fun K0 hK0 => ?_) ?_
            · go_simp
              refine ⟨trivial, fun _ => by omega, (callsIn_wide.2 (ahead_any _ _ _)).mono ?_⟩
              rintro e W6 ⟨rfl, hW6⟩
              replace hW6 := hW6.symm
              subst hW6
              refine hK0 _ _ ?_
              clear hK0 K0
              (try simp only [Act.put, List.setIfInBounds_toArray, List.set_cons_zero, List.set_cons_succ])
              refine wpAnyIn_ready (rs := [9]) (by kernel_rfl) (by simp) ?_
              refine AllReadyIn.cons (o := { dst := some 22, op := Op.call { callee := Callee.value (Operand.func 21), args := #[Operand.tmp 19, Operand.tmp 21], argTypes := #[9, 9] }, type := 3, pos := "label.go:39", after := #[{ on := 6, ground := Ground.data }, { on := 8, ground := Ground.data }, { on := 4, ground := Ground.chain }], guard := none }) rfl (fun K0 hK0 => ?_) ?_
              · go_simp
                refine ⟨trivial, fun _ => by omega, (callsIn_wide.2 (ahead_any _ _ _)).mono ?_⟩
                rintro e W6 ⟨rfl, hW6⟩
                replace hW6 := hW6.symm
                subst hW6
                refine hK0 _ _ ?_
                clear hK0 K0
                (try simp only [Act.put, List.setIfInBounds_toArray, List.set_cons_zero, List.set_cons_succ])
                refine wpAnyIn_ready (rs := [10]) (by kernel_rfl) (by simp) ?_
                refine AllReadyIn.cons (o := { dst := some 23, op := Op.buildSlice 52 2 #[(0, Operand.tmp 17), (1, Operand.tmp 22)], type := 52, pos := "label.go:39", after := #[{ on := 4, ground := Ground.data }, { on := 9, ground := Ground.data }], guard := none }) rfl (fun K0 hK0 => ?_) ?_
                · go_simp
                  refine hK0 _ _ ?_
                  clear hK0 K0
                  (try simp only [Act.put, List.setIfInBounds_toArray, List.set_cons_zero, List.set_cons_succ])
                  refine wpAnyIn_ready (rs := [11]) (by kernel_rfl) (by simp) ?_
                  refine AllReadyIn.cons (o := { dst := some 24, op := Op.call { callee := Callee.value (Operand.func 20), args := #[Operand.tmp 23], argTypes := #[52] }, type := 3, pos := "label.go:39", after := #[{ on := 10, ground := Ground.data }, { on := 9, ground := Ground.chain }], guard := none }) rfl (fun K0 hK0 => ?_) ?_
                  · go_simp
                    refine ⟨trivial, fun _ => by omega, (callsIn_wide.2 (or_any (s3 x.1.1 x.2.1) (s3 x.1.2 x.2.2) W5.heap.size _ (cells2 W5 _ _ 3).1 (cells2 W5 _ _ 3).2)).mono ?_⟩
                    rintro e W6 ⟨rfl, hW6⟩
                    replace hW6 := hW6.symm
                    subst hW6
                    refine hK0 _ _ ?_
                    clear hK0 K0
                    (try simp only [Act.put, List.setIfInBounds_toArray, List.set_cons_zero, List.set_cons_succ])
                    refine wpAnyIn_ready (rs := [12]) (by kernel_rfl) (by simp) ?_
                    refine AllReadyIn.cons (o := { dst := some 7, op := Op.assign (Operand.tmp 24), type := 3, pos := "label.go:39", after := #[{ on := 11, ground := Ground.data }, { on := 11, ground := Ground.chain }, { on := 0, ground := Ground.phase }, { on := 1, ground := Ground.phase }, { on := 2, ground := Ground.phase }, { on := 3, ground := Ground.phase }, { on := 4, ground := Ground.phase }, { on := 5, ground := Ground.phase }, { on := 6, ground := Ground.phase }, { on := 7, ground := Ground.phase }, { on := 8, ground := Ground.phase }, { on := 9, ground := Ground.phase }, { on := 10, ground := Ground.phase }, { on := 11, ground := Ground.phase }], guard := none }) rfl (fun K0 hK0 => ?_) ?_
                    · go_simp
                      refine hK0 _ _ ?_
                      clear hK0 K0
                      (try simp only [Act.put, List.setIfInBounds_toArray, List.set_cons_zero, List.set_cons_succ])
                      refine wpAnyIn_done (by kernel_rfl) ?_ _
                      have b6 := hb5.out.alloc (.cells #[.int .i64 (s3 x.1.1 x.2.1), .int .i64 (s3 x.1.2 x.2.2)] 3)
                      have B6 := hide (B5.out.alloc B5.out.size (.cells #[.int .i64 (s3 x.1.1 x.2.1), .int .i64 (s3 x.1.2 x.2.2)] 3))
                      have N6 := hide (N5.out.alloc B5.out.size (.cells #[.int .i64 (s3 x.1.1 x.2.1), .int .i64 (s3 x.1.2 x.2.2)] 3))
                      have M6 := hide (M5.out.trans (KeepsOthers.alloc W5 (.cells #[.int .i64 (s3 x.1.1 x.2.1), .int .i64 (s3 x.1.2 x.2.2)] 3)))
                      generalize W5.alloc (.cells #[.int .i64 (s3 x.1.1 x.2.1), .int .i64 (s3 x.1.2 x.2.2)] 3) = W6 at b6 B6 N6 M6 ⊢
                      have q6 := b6.cell
                      have f6 := b6.frozen
                      replace b6 := hide b6
                      clear x0 x1 x2 x3 hW5 B5 N5 M5 hb5
                      rcases Decidable.em (or2 (s3 x.1.1 x.2.1) (s3 x.1.2 x.2.2) = 0) with hq | hq
                      · gi_wp2
                        exact ⟨M6.out.from _, N6.out, ⟨fun y hy => by
                          rcases List.mem_append.1 hy with h | h
                          · exact hz.out y h
                          · rw [List.mem_singleton.1 h]; exact hq, b6.out⟩, B6.out⟩
                      · gi_wp2
                        exact ⟨(M6.out.trans (KeepsOthers.setCell _ _ _)).from _, rfl, ⟨pre, x, rfl, hz.out, hq, b6.out.set _⟩, (BB.trans (B6.out.mono (Nat.le_of_lt zz))).setCell (Nat.le_refl _) _⟩
                    exact AllReadyIn.nil
                  exact AllReadyIn.nil
                exact AllReadyIn.nil
              exact AllReadyIn.nil
            exact AllReadyIn.nil
          exact AllReadyIn.nil
        refine AllReadyIn.cons (o := { dst := some 21, op := Op.load 9 (Operand.tmp 20), type := 9, pos := "label.go:39", after := #[{ on := 7, ground := Ground.data }], guard := none }) rfl (fun K0 hK0 => ?_) ?_
        · go_simp
          refine hK0 _ _ ?_
          clear hK0 K0
          (try simp only [Act.put, List.setIfInBounds_toArray, List.set_cons_zero, List.set_cons_succ])
          refine wpAnyIn_ready (rs := [1]) (by kernel_rfl) (by simp) ?_
          refine AllReadyIn.cons (o := { dst := some 14, op := Op.load 9 (Operand.tmp 13), type := 9, pos := "label.go:39", after := #[{ on := 0, ground := Ground.data }], guard := none }) rfl (fun K0 hK0 => ?_) ?_
          · go_simp
            refine hK0 _ _ ?_
            clear hK0 K0
            (try simp only [Act.put, List.setIfInBounds_toArray, List.set_cons_zero, List.set_cons_succ])
            refine wpAnyIn_ready (rs := [4]) (by kernel_rfl) (by simp) ?_
            refine AllReadyIn.cons (o := { dst := some 17, op := Op.call { callee := Callee.value (Operand.func 21), args := #[Operand.tmp 14, Operand.tmp 16], argTypes := #[9, 9] }, type := 3, pos := "label.go:39", after := #[{ on := 1, ground := Ground.data }, { on := 3, ground := Ground.data }], guard := none }) rfl (fun K0 hK0 => ?_) ?_
            · go_simp
              refine ⟨trivial, fun _ => by omega, (callsIn_wide.2 (ahead_any _ _ _)).mono ?_⟩
              rintro e W6 ⟨rfl, hW6⟩
              replace hW6 := hW6.symm
              subst hW6
              refine hK0 _ _ ?_
              clear hK0 K0
              (try simp only [Act.put, List.setIfInBounds_toArray, List.set_cons_zero, List.set_cons_succ])
              refine wpAnyIn_ready (rs := [9]) (by kernel_rfl) (by simp) ?_
              refine AllReadyIn.cons (o := { dst := some 22, op := Op.call { callee := Callee.value (Operand.func 21), args := #[Operand.tmp 19, Operand.tmp 21], argTypes := #[9, 9] }, type := 3, pos := "label.go:39", after := #[{ on := 6, ground := Ground.data }, { on := 8, ground := Ground.data }, { on := 4, ground := Ground.chain }], guard := none }) rfl (fun K0 hK0 => ?_) ?_
              · go_simp
                refine ⟨trivial, fun _ => by omega, (callsIn_wide.2 (ahead_any _ _ _)).mono ?_⟩
                rintro e W6 ⟨rfl, hW6⟩
                replace hW6 := hW6.symm
                subst hW6
                refine hK0 _ _ ?_
                clear hK0 K0
                (try simp only [Act.put, List.setIfInBounds_toArray, List.set_cons_zero, List.set_cons_succ])
                refine wpAnyIn_ready (rs := [10]) (by kernel_rfl) (by simp) ?_
                refine AllReadyIn.cons (o := { dst := some 23, op := Op.buildSlice 52 2 #[(0, Operand.tmp 17), (1, Operand.tmp 22)], type := 52, pos := "label.go:39", after := #[{ on := 4, ground := Ground.data }, { on := 9, ground := Ground.data }], guard := none }) rfl (fun K0 hK0 => ?_) ?_
                · go_simp
                  refine hK0 _ _ ?_
                  clear hK0 K0
                  (try simp only [Act.put, List.setIfInBounds_toArray, List.set_cons_zero, List.set_cons_succ])
                  refine wpAnyIn_ready (rs := [11]) (by kernel_rfl) (by simp) ?_
                  refine AllReadyIn.cons (o := { dst := some 24, op := Op.call { callee := Callee.value (Operand.func 20), args := #[Operand.tmp 23], argTypes := #[52] }, type := 3, pos := "label.go:39", after := #[{ on := 10, ground := Ground.data }, { on := 9, ground := Ground.chain }], guard := none }) rfl (fun K0 hK0 => ?_) ?_
                  · go_simp
                    refine ⟨trivial, fun _ => by omega, (callsIn_wide.2 (or_any (s3 x.1.1 x.2.1) (s3 x.1.2 x.2.2) W5.heap.size _ (cells2 W5 _ _ 3).1 (cells2 W5 _ _ 3).2)).mono ?_⟩
                    rintro e W6 ⟨rfl, hW6⟩
                    replace hW6 := hW6.symm
                    subst hW6
                    refine hK0 _ _ ?_
                    clear hK0 K0
                    (try simp only [Act.put, List.setIfInBounds_toArray, List.set_cons_zero, List.set_cons_succ])
                    refine wpAnyIn_ready (rs := [12]) (by kernel_rfl) (by simp) ?_
                    refine AllReadyIn.cons (o := { dst := some 7, op := Op.assign (Operand.tmp 24), type := 3, pos := "label.go:39", after := #[{ on := 11, ground := Ground.data }, { on := 11, ground := Ground.chain }, { on := 0, ground := Ground.phase }, { on := 1, ground := Ground.phase }, { on := 2, ground := Ground.phase }, { on := 3, ground := Ground.phase }, { on := 4, ground := Ground.phase }, { on := 5, ground := Ground.phase }, { on := 6, ground := Ground.phase }, { on := 7, ground := Ground.phase }, { on := 8, ground := Ground.phase }, { on := 9, ground := Ground.phase }, { on := 10, ground := Ground.phase }, { on := 11, ground := Ground.phase }], guard := none }) rfl (fun K0 hK0 => ?_) ?_
                    · go_simp
                      refine hK0 _ _ ?_
                      clear hK0 K0
                      (try simp only [Act.put, List.setIfInBounds_toArray, List.set_cons_zero, List.set_cons_succ])
                      refine wpAnyIn_done (by kernel_rfl) ?_ _
                      have b6 := hb5.out.alloc (.cells #[.int .i64 (s3 x.1.1 x.2.1), .int .i64 (s3 x.1.2 x.2.2)] 3)
                      have B6 := hide (B5.out.alloc B5.out.size (.cells #[.int .i64 (s3 x.1.1 x.2.1), .int .i64 (s3 x.1.2 x.2.2)] 3))
                      have N6 := hide (N5.out.alloc B5.out.size (.cells #[.int .i64 (s3 x.1.1 x.2.1), .int .i64 (s3 x.1.2 x.2.2)] 3))
                      have M6 := hide (M5.out.trans (KeepsOthers.alloc W5 (.cells #[.int .i64 (s3 x.1.1 x.2.1), .int .i64 (s3 x.1.2 x.2.2)] 3)))
                      generalize W5.alloc (.cells #[.int .i64 (s3 x.1.1 x.2.1), .int .i64 (s3 x.1.2 x.2.2)] 3) = W6 at b6 B6 N6 M6 ⊢
                      have q6 := b6.cell
                      have f6 := b6.frozen
                      replace b6 := hide b6
                      clear x0 x1 x2 x3 hW5 B5 N5 M5 hb5
                      rcases Decidable.em (or2 (s3 x.1.1 x.2.1) (s3 x.1.2 x.2.2) = 0) with hq | hq
                      · gi_wp2
                        exact ⟨M6.out.from _, N6.out, ⟨fun y hy => by
                          rcases List.mem_append.1 hy with h | h
                          · exact hz.out y h
                          · rw [List.mem_singleton.1 h]; exact hq, b6.out⟩, B6.out⟩
                      · gi_wp2
                        exact ⟨(M6.out.trans (KeepsOthers.setCell _ _ _)).from _, rfl, ⟨pre, x, rfl, hz.out, hq, b6.out.set _⟩, (BB.trans (B6.out.mono (Nat.le_of_lt zz))).setCell (Nat.le_refl _) _⟩
                    exact AllReadyIn.nil
                  exact AllReadyIn.nil
                exact AllReadyIn.nil
              exact AllReadyIn.nil
            exact AllReadyIn.nil
          exact AllReadyIn.nil
        exact AllReadyIn.nil
      refine AllReadyIn.cons (o := { dst := some 21, op := Op.load 9 (Operand.tmp 20), type := 9, pos := "label.go:39", after := #[{ on := 7, ground := Ground.data }], guard := none }) rfl (fun K0 hK0 => ?_) ?_
      · go_simp
        refine hK0 _ _ ?_
        clear hK0 K0
        (try simp only [Act.put, List.setIfInBounds_toArray, List.set_cons_zero, List.set_cons_succ])
        refine wpAnyIn_ready (rs := [1, 6]) (by kernel_rfl) (by simp) ?_
        refine AllReadyIn.cons (o := { dst := some 14, op := Op.load 9 (Operand.tmp 13), type := 9, pos := "label.go:39", after := #[{ on := 0, ground := Ground.data }], guard := none }) rfl (fun K0 hK0 => ?_) ?_
        · go_simp
          refine hK0 _ _ ?_
          clear hK0 K0
          (try simp only [Act.put, List.setIfInBounds_toArray, List.set_cons_zero, List.set_cons_succ])
          refine wpAnyIn_ready (rs := [4, 6]) (by kernel_rfl) (by simp) ?_
          refine AllReadyIn.cons (o := { dst := some 17, op := Op.call { callee := Callee.value (Operand.func 21), args := #[Operand.tmp 14, Operand.tmp 16], argTypes := #[9, 9] }, type := 3, pos := "label.go:39", after := #[{ on := 1, ground := Ground.data }, { on := 3, ground := Ground.data }], guard := none }) rfl (fun K0 hK0 => ?_) ?_
          · go_simp
            refine ⟨trivial, fun _ => by omega, (callsIn_wide.2 (ahead_any _ _ _)).mono ?_⟩
            rintro e W6 ⟨rfl, hW6⟩
            replace hW6 := hW6.symm
            subst hW6
            refine hK0 _ _ ?_
            clear hK0 K0
            (try simp only [Act.put, List.setIfInBounds_toArray, List.set_cons_zero, List.set_cons_succ])
            refine wpAnyIn_ready (rs := [6]) (by kernel_rfl) (by simp) ?_
            refine AllReadyIn.cons (o := { dst := some 19, op := Op.load 9 (Operand.tmp 18), type := 9, pos := "label.go:39", after := #[{ on := 5, ground := Ground.data }], guard := none }) rfl (fun K0 hK0 => ?_) ?_
            · go_simp
              refine hK0 _ _ ?_
              clear hK0 K0
              (try simp only [Act.put, List.setIfInBounds_toArray, List.set_cons_zero, List.set_cons_succ])
              refine wpAnyIn_ready (rs := [9]) (by kernel_rfl) (by simp) ?_
              refine AllReadyIn.cons (o := { dst := some 22, op := Op.call { callee := Callee.value (Operand.func 21), args := #[Operand.tmp 19, Operand.tmp 21], argTypes := #[9, 9] }, type := 3, pos := "label.go:39", after := #[{ on := 6, ground := Ground.data }, { on := 8, ground := Ground.data }, { on := 4, ground := Ground.chain }], guard := none }) rfl (fun K0 hK0 => ?_) ?_
              · go_simp
                refine ⟨trivial, fun _ => by omega, (callsIn_wide.2 (ahead_any _ _ _)).mono ?_⟩
                rintro e W6 ⟨rfl, hW6⟩
                replace hW6 := hW6.symm
                subst hW6
                refine hK0 _ _ ?_
                clear hK0 K0
                (try simp only [Act.put, List.setIfInBounds_toArray, List.set_cons_zero, List.set_cons_succ])
                refine wpAnyIn_ready (rs := [10]) (by kernel_rfl) (by simp) ?_
                refine AllReadyIn.cons (o := { dst := some 23, op := Op.buildSlice 52 2 #[(0, Operand.tmp 17), (1, Operand.tmp 22)], type := 52, pos := "label.go:39", after := #[{ on := 4, ground := Ground.data }, { on := 9, ground := Ground.data }], guard := none }) rfl (fun K0 hK0 => ?_) ?_
                · go_simp
                  refine hK0 _ _ ?_
                  clear hK0 K0
                  (try simp only [Act.put, List.setIfInBounds_toArray, List.set_cons_zero, List.set_cons_succ])
                  refine wpAnyIn_ready (rs := [11]) (by kernel_rfl) (by simp) ?_
                  refine AllReadyIn.cons (o := { dst := some 24, op := Op.call { callee := Callee.value (Operand.func 20), args := #[Operand.tmp 23], argTypes := #[52] }, type := 3, pos := "label.go:39", after := #[{ on := 10, ground := Ground.data }, { on := 9, ground := Ground.chain }], guard := none }) rfl (fun K0 hK0 => ?_) ?_
                  · go_simp
                    refine ⟨trivial, fun _ => by omega, (callsIn_wide.2 (or_any (s3 x.1.1 x.2.1) (s3 x.1.2 x.2.2) W5.heap.size _ (cells2 W5 _ _ 3).1 (cells2 W5 _ _ 3).2)).mono ?_⟩
                    rintro e W6 ⟨rfl, hW6⟩
                    replace hW6 := hW6.symm
                    subst hW6
                    refine hK0 _ _ ?_
                    clear hK0 K0
                    (try simp only [Act.put, List.setIfInBounds_toArray, List.set_cons_zero, List.set_cons_succ])
                    refine wpAnyIn_ready (rs := [12]) (by kernel_rfl) (by simp) ?_
                    refine AllReadyIn.cons (o := { dst := some 7, op := Op.assign (Operand.tmp 24), type := 3, pos := "label.go:39", after := #[{ on := 11, ground := Ground.data }, { on := 11, ground := Ground.chain }, { on := 0, ground := Ground.phase }, { on := 1, ground := Ground.phase }, { on := 2, ground := Ground.phase }, { on := 3, ground := Ground.phase }, { on := 4, ground := Ground.phase }, { on := 5, ground := Ground.phase }, { on := 6, ground := Ground.phase }, { on := 7, ground := Ground.phase }, { on := 8, ground := Ground.phase }, { on := 9, ground := Ground.phase }, { on := 10, ground := Ground.phase }, { on := 11, ground := Ground.phase }], guard := none }) rfl (fun K0 hK0 => ?_) ?_
                    · go_simp
                      refine hK0 _ _ ?_
                      clear hK0 K0
                      (try simp only [Act.put, List.setIfInBounds_toArray, List.set_cons_zero, List.set_cons_succ])
                      refine wpAnyIn_done (by kernel_rfl) ?_ _
                      have b6 := hb5.out.alloc (.cells #[.int .i64 (s3 x.1.1 x.2.1), .int .i64 (s3 x.1.2 x.2.2)] 3)
                      have B6 := hide (B5.out.alloc B5.out.size (.cells #[.int .i64 (s3 x.1.1 x.2.1), .int .i64 (s3 x.1.2 x.2.2)] 3))
                      have N6 := hide (N5.out.alloc B5.out.size (.cells #[.int .i64 (s3 x.1.1 x.2.1), .int .i64 (s3 x.1.2 x.2.2)] 3))
                      have M6 := hide (M5.out.trans (KeepsOthers.alloc W5 (.cells #[.int .i64 (s3 x.1.1 x.2.1), .int .i64 (s3 x.1.2 x.2.2)] 3)))
                      generalize W5.alloc (.cells #[.int .i64 (s3 x.1.1 x.2.1), .int .i64 (s3 x.1.2 x.2.2)] 3) = W6 at b6 B6 N6 M6 ⊢
                      have q6 := b6.cell
                      have f6 := b6.frozen
                      replace b6 := hide b6
                      clear x0 x1 x2 x3 hW5 B5 N5 M5 hb5
                      rcases Decidable.em (or2 (s3 x.1.1 x.2.1) (s3 x.1.2 x.2.2) = 0) with hq | hq
                      · gi_wp2
                        exact ⟨M6.out.from _, N6.out, ⟨fun y hy => by
                          rcases List.mem_append.1 hy with h | h
                          · exact hz.out y h
                          · rw [List.mem_singleton.1 h]; exact hq, b6.out⟩, B6.out⟩
                      · gi_wp2
                        exact ⟨(M6.out.trans (KeepsOthers.setCell _ _ _)).from _, rfl, ⟨pre, x, rfl, hz.out, hq, b6.out.set _⟩, (BB.trans (B6.out.mono (Nat.le_of_lt zz))).setCell (Nat.le_refl _) _⟩
                    exact AllReadyIn.nil
                  exact AllReadyIn.nil
                exact AllReadyIn.nil
              exact AllReadyIn.nil
            exact AllReadyIn.nil
          refine AllReadyIn.cons (o := { dst := some 19, op := Op.load 9 (Operand.tmp 18), type := 9, pos := "label.go:39", after := #[{ on := 5, ground := Ground.data }], guard := none }) rfl (fun K0 hK0 => ?_) ?_
          · go_simp
            refine hK0 _ _ ?_
            clear hK0 K0
            (try simp only [Act.put, List.setIfInBounds_toArray, List.set_cons_zero, List.set_cons_succ])
            refine wpAnyIn_ready (rs := [4]) (by kernel_rfl) (by simp) ?_
            refine AllReadyIn.cons (o := { dst := some 17, op := Op.call { callee := Callee.value (Operand.func 21), args := #[Operand.tmp 14, Operand.tmp 16], argTypes := #[9, 9] }, type := 3, pos := "label.go:39", after := #[{ on := 1, ground := Ground.data }, { on := 3, ground := Ground.data }], guard := none }) rfl (fun K0 hK0 => ?_) ?_
            · go_simp
              refine ⟨trivial, fun _ => by omega, (callsIn_wide.2 (ahead_any _ _ _)).mono ?_⟩
              rintro e W6 ⟨rfl, hW6⟩
              replace hW6 := hW6.symm
              subst hW6
              refine hK0 _ _ ?_
              clear hK0 K0
              (try simp only [Act.put, List.setIfInBounds_toArray, List.set_cons_zero, List.set_cons_succ])
              refine wpAnyIn_ready (rs := [9]) (by kernel_rfl) (by simp) ?_
              refine AllReadyIn.cons (o := { dst := some 22, op := Op.call { callee := Callee.value (Operand.func 21), args := #[Operand.tmp 19, Operand.tmp 21], argTypes := #[9, 9] }, type := 3, pos := "label.go:39", after := #[{ on := 6, ground := Ground.data }, { on := 8, ground := Ground.data }, { on := 4, ground := Ground.chain }], guard := none }) rfl (fun K0 hK0 => ?_) ?_
              · go_simp
                refine ⟨trivial, fun _ => by omega, (callsIn_wide.2 (ahead_any _ _ _)).mono ?_⟩
                rintro e W6 ⟨rfl, hW6⟩
                replace hW6 := hW6.symm
                subst hW6
                refine hK0 _ _ ?_
                clear hK0 K0
                (try simp only [Act.put, List.setIfInBounds_toArray, List.set_cons_zero, List.set_cons_succ])
                refine wpAnyIn_ready (rs := [10]) (by kernel_rfl) (by simp) ?_
                refine AllReadyIn.cons (o := { dst := some 23, op := Op.buildSlice 52 2 #[(0, Operand.tmp 17), (1, Operand.tmp 22)], type := 52, pos := "label.go:39", after := #[{ on := 4, ground := Ground.data }, { on := 9, ground := Ground.data }], guard := none }) rfl (fun K0 hK0 => ?_) ?_
                · go_simp
                  refine hK0 _ _ ?_
                  clear hK0 K0
                  (try simp only [Act.put, List.setIfInBounds_toArray, List.set_cons_zero, List.set_cons_succ])
                  refine wpAnyIn_ready (rs := [11]) (by kernel_rfl) (by simp) ?_
                  refine AllReadyIn.cons (o := { dst := some 24, op := Op.call { callee := Callee.value (Operand.func 20), args := #[Operand.tmp 23], argTypes := #[52] }, type := 3, pos := "label.go:39", after := #[{ on := 10, ground := Ground.data }, { on := 9, ground := Ground.chain }], guard := none }) rfl (fun K0 hK0 => ?_) ?_
                  · go_simp
                    refine ⟨trivial, fun _ => by omega, (callsIn_wide.2 (or_any (s3 x.1.1 x.2.1) (s3 x.1.2 x.2.2) W5.heap.size _ (cells2 W5 _ _ 3).1 (cells2 W5 _ _ 3).2)).mono ?_⟩
                    rintro e W6 ⟨rfl, hW6⟩
                    replace hW6 := hW6.symm
                    subst hW6
                    refine hK0 _ _ ?_
                    clear hK0 K0
                    (try simp only [Act.put, List.setIfInBounds_toArray, List.set_cons_zero, List.set_cons_succ])
                    refine wpAnyIn_ready (rs := [12]) (by kernel_rfl) (by simp) ?_
                    refine AllReadyIn.cons (o := { dst := some 7, op := Op.assign (Operand.tmp 24), type := 3, pos := "label.go:39", after := #[{ on := 11, ground := Ground.data }, { on := 11, ground := Ground.chain }, { on := 0, ground := Ground.phase }, { on := 1, ground := Ground.phase }, { on := 2, ground := Ground.phase }, { on := 3, ground := Ground.phase }, { on := 4, ground := Ground.phase }, { on := 5, ground := Ground.phase }, { on := 6, ground := Ground.phase }, { on := 7, ground := Ground.phase }, { on := 8, ground := Ground.phase }, { on := 9, ground := Ground.phase }, { on := 10, ground := Ground.phase }, { on := 11, ground := Ground.phase }], guard := none }) rfl (fun K0 hK0 => ?_) ?_
                    · go_simp
                      refine hK0 _ _ ?_
                      clear hK0 K0
                      (try simp only [Act.put, List.setIfInBounds_toArray, List.set_cons_zero, List.set_cons_succ])
                      refine wpAnyIn_done (by kernel_rfl) ?_ _
                      have b6 := hb5.out.alloc (.cells #[.int .i64 (s3 x.1.1 x.2.1), .int .i64 (s3 x.1.2 x.2.2)] 3)
                      have B6 := hide (B5.out.alloc B5.out.size (.cells #[.int .i64 (s3 x.1.1 x.2.1), .int .i64 (s3 x.1.2 x.2.2)] 3))
                      have N6 := hide (N5.out.alloc B5.out.size (.cells #[.int .i64 (s3 x.1.1 x.2.1), .int .i64 (s3 x.1.2 x.2.2)] 3))
                      have M6 := hide (M5.out.trans (KeepsOthers.alloc W5 (.cells #[.int .i64 (s3 x.1.1 x.2.1), .int .i64 (s3 x.1.2 x.2.2)] 3)))
                      generalize W5.alloc (.cells #[.int .i64 (s3 x.1.1 x.2.1), .int .i64 (s3 x.1.2 x.2.2)] 3) = W6 at b6 B6 N6 M6 ⊢
                      have q6 := b6.cell
                      have f6 := b6.frozen
                      replace b6 := hide b6
                      clear x0 x1 x2 x3 hW5 B5 N5 M5 hb5
                      rcases Decidable.em (or2 (s3 x.1.1 x.2.1) (s3 x.1.2 x.2.2) = 0) with hq | hq
                      · gi_wp2
                        exact ⟨M6.out.from _, N6.out, ⟨fun y hy => by
                          rcases List.mem_append.1 hy with h | h
                          · exact hz.out y h
                          · rw [List.mem_singleton.1 h]; exact hq, b6.out⟩, B6.out⟩
                      · gi_wp2
                        exact ⟨(M6.out.trans (KeepsOthers.setCell _ _ _)).from _, rfl, ⟨pre, x, rfl, hz.out, hq, b6.out.set _⟩, (BB.trans (B6.out.mono (Nat.le_of_lt zz))).setCell (Nat.le_refl _) _⟩
                    exact AllReadyIn.nil
                  exact AllReadyIn.nil
                exact AllReadyIn.nil
              exact AllReadyIn.nil
            exact AllReadyIn.nil
          exact AllReadyIn.nil
        refine AllReadyIn.cons (o := { dst := some 19, op := Op.load 9 (Operand.tmp 18), type := 9, pos := "label.go:39", after := #[{ on := 5, ground := Ground.data }], guard := none }) rfl (fun K0 hK0 => ?_) ?_
        · go_simp
          refine hK0 _ _ ?_
          clear hK0 K0
          (try simp only [Act.put, List.setIfInBounds_toArray, List.set_cons_zero, List.set_cons_succ])
          refine wpAnyIn_ready (rs := [1]) (by kernel_rfl) (by simp) ?_
          refine AllReadyIn.cons (o := { dst := some 14, op := Op.load 9 (Operand.tmp 13), type := 9, pos := "label.go:39", after := #[{ on := 0, ground := Ground.data }], guard := none }) rfl (fun K0 hK0 => ?_) ?_
          · go_simp
            refine hK0 _ _ ?_
            clear hK0 K0
            (try simp only [Act.put, List.setIfInBounds_toArray, List.set_cons_zero, List.set_cons_succ])
            refine wpAnyIn_ready (rs := [4]) (by kernel_rfl) (by simp) ?_
            refine AllReadyIn.cons (o := { dst := some 17, op := Op.call { callee := Callee.value (Operand.func 21), args := #[Operand.tmp 14, Operand.tmp 16], argTypes := #[9, 9] }, type := 3, pos := "label.go:39", after := #[{ on := 1, ground := Ground.data }, { on := 3, ground := Ground.data }], guard := none }) rfl (fun K0 hK0 => ?_) ?_
            · go_simp
              refine ⟨trivial, fun _ => by omega, (callsIn_wide.2 (ahead_any _ _ _)).mono ?_⟩
              rintro e W6 ⟨rfl, hW6⟩
              replace hW6 := hW6.symm
              subst hW6
              refine hK0 _ _ ?_
              clear hK0 K0
              (try simp only [Act.put, List.setIfInBounds_toArray, List.set_cons_zero, List.set_cons_succ])
              refine wpAnyIn_ready (rs := [9]) (by kernel_rfl) (by simp) ?_
              refine AllReadyIn.cons (o := { dst := some 22, op := Op.call { callee := Callee.value (Operand.func 21), args := #[Operand.tmp 19, Operand.tmp 21], argTypes := #[9, 9] }, type := 3, pos := "label.go:39", after := #[{ on := 6, ground := Ground.data }, { on := 8, ground := Ground.data }, { on := 4, ground := Ground.chain }], guard := none }) rfl (fun K0 hK0 => ?_) ?_
              · go_simp
                refine ⟨trivial, fun _ => by omega, (callsIn_wide.2 (ahead_any _ _ _)).mono ?_⟩
                rintro e W6 ⟨rfl, hW6⟩
                replace hW6 := hW6.symm
                subst hW6
                refine hK0 _ _ ?_
                clear hK0 K0
                (try simp only [Act.put, List.setIfInBounds_toArray, List.set_cons_zero, List.set_cons_succ])
                refine wpAnyIn_ready (rs := [10]) (by kernel_rfl) (by simp) ?_
                refine AllReadyIn.cons (o := { dst := some 23, op := Op.buildSlice 52 2 #[(0, Operand.tmp 17), (1, Operand.tmp 22)], type := 52, pos := "label.go:39", after := #[{ on := 4, ground := Ground.data }, { on := 9, ground := Ground.data }], guard := none }) rfl (fun K0 hK0 => ?_) ?_
                · go_simp
                  refine hK0 _ _ ?_
                  clear hK0 K0
                  (try simp only [Act.put, List.setIfInBounds_toArray, List.set_cons_zero, List.set_cons_succ])
                  refine wpAnyIn_ready (rs := [11]) (by kernel_rfl) (by simp) ?_
                  refine AllReadyIn.cons (o := { dst := some 24, op := Op.call { callee := Callee.value (Operand.func 20), args := #[Operand.tmp 23], argTypes := #[52] }, type := 3, pos := "label.go:39", after := #[{ on := 10, ground := Ground.data }, { on := 9, ground := Ground.chain }], guard := none }) rfl (fun K0 hK0 => ?_) ?_
                  · go_simp
                    refine ⟨trivial, fun _ => by omega, (callsIn_wide.2 (or_any (s3 x.1.1 x.2.1) (s3 x.1.2 x.2.2) W5.heap.size _ (cells2 W5 _ _ 3).1 (cells2 W5 _ _ 3).2)).mono ?_⟩
                    rintro e W6 ⟨rfl, hW6⟩
                    replace hW6 := hW6.symm
                    subst hW6
                    refine hK0 _ _ ?_
                    clear hK0 K0
                    (try simp only [Act.put, List.setIfInBounds_toArray, List.set_cons_zero, List.set_cons_succ])
                    refine wpAnyIn_ready (rs := [12]) (by kernel_rfl) (by simp) ?_
                    refine AllReadyIn.cons (o := { dst := some 7, op := Op.assign (Operand.tmp 24), type := 3, pos := "label.go:39", after := #[{ on := 11, ground := Ground.data }, { on := 11, ground := Ground.chain }, { on := 0, ground := Ground.phase }, { on := 1, ground := Ground.phase }, { on := 2, ground := Ground.phase }, { on := 3, ground := Ground.phase }, { on := 4, ground := Ground.phase }, { on := 5, ground := Ground.phase }, { on := 6, ground := Ground.phase }, { on := 7, ground := Ground.phase }, { on := 8, ground := Ground.phase }, { on := 9, ground := Ground.phase }, { on := 10, ground := Ground.phase }, { on := 11, ground := Ground.phase }], guard := none }) rfl (fun K0 hK0 => ?_) ?_
                    · go_simp
                      refine hK0 _ _ ?_
                      clear hK0 K0
                      (try simp only [Act.put, List.setIfInBounds_toArray, List.set_cons_zero, List.set_cons_succ])
                      refine wpAnyIn_done (by kernel_rfl) ?_ _
                      have b6 := hb5.out.alloc (.cells #[.int .i64 (s3 x.1.1 x.2.1), .int .i64 (s3 x.1.2 x.2.2)] 3)
                      have B6 := hide (B5.out.alloc B5.out.size (.cells #[.int .i64 (s3 x.1.1 x.2.1), .int .i64 (s3 x.1.2 x.2.2)] 3))
                      have N6 := hide (N5.out.alloc B5.out.size (.cells #[.int .i64 (s3 x.1.1 x.2.1), .int .i64 (s3 x.1.2 x.2.2)] 3))
                      have M6 := hide (M5.out.trans (KeepsOthers.alloc W5 (.cells #[.int .i64 (s3 x.1.1 x.2.1), .int .i64 (s3 x.1.2 x.2.2)] 3)))
                      generalize W5.alloc (.cells #[.int .i64 (s3 x.1.1 x.2.1), .int .i64 (s3 x.1.2 x.2.2)] 3) = W6 at b6 B6 N6 M6 ⊢
                      have q6 := b6.cell
                      have f6 := b6.frozen
                      replace b6 := hide b6
                      clear x0 x1 x2 x3 hW5 B5 N5 M5 hb5
                      rcases Decidable.em (or2 (s3 x.1.1 x.2.1) (s3 x.1.2 x.2.2) = 0) with hq | hq
                      · gi_wp2
                        exact ⟨M6.out.from _, N6.out, ⟨fun y hy => by
                          rcases List.mem_append.1 hy with h | h
                          · exact hz.out y h
                          · rw [List.mem_singleton.1 h]; exact hq, b6.out⟩, B6.out⟩
                      · gi_wp2
                        exact ⟨(M6.out.trans (KeepsOthers.setCell _ _ _)).from _, rfl, ⟨pre, x, rfl, hz.out, hq, b6.out.set _⟩, (BB.trans (B6.out.mono (Nat.le_of_lt zz))).setCell (Nat.le_refl _) _⟩
                    exact AllReadyIn.nil
                  exact AllReadyIn.nil
                exact AllReadyIn.nil
              exact AllReadyIn.nil
            exact AllReadyIn.nil
          exact AllReadyIn.nil
        exact AllReadyIn.nil
      exact AllReadyIn.nil
    refine AllReadyIn.cons (o := { dst := some 19, op := Op.load 9 (Operand.tmp 18), type := 9, pos := "label.go:39", after := #[{ on := 5, ground := Ground.data }], guard := none }) rfl (fun K0 hK0 => ?_) ?_
    · go_simp
      refine hK0 _ _ ?_
      clear hK0 K0
      (try simp only [Act.put, List.setIfInBounds_toArray, List.set_cons_zero, List.set_cons_succ])
      refine wpAnyIn_ready (rs := [1, 3, 8]) (by kernel_rfl) (by simp) ?_
      refine AllReadyIn.cons (o := { dst := some 14, op := Op.load 9 (Operand.tmp 13), type := 9, pos := "label.go:39", after := #[{ on := 0, ground := Ground.data }], guard := none }) rfl (fun K0 hK0 => ?_) ?_
      · go_simp
        refine hK0 _ _ ?_
        clear hK0 K0
        (try simp only [Act.put, List.setIfInBounds_toArray, List.set_cons_zero, List.set_cons_succ])
        refine wpAnyIn_ready (rs := [3, 8]) (by kernel_rfl) (by simp) ?_
        refine AllReadyIn.cons (o := { dst := some 16, op := Op.load 9 (Operand.tmp 15), type := 9, pos := "label.go:39", after := #[{ on := 2, ground := Ground.data }], guard := none }) rfl (fun K0 hK0 => ?_) ?_
        · go_simp
          refine hK0 _ _ ?_
          clear hK0 K0
          (try simp only [Act.put, List.setIfInBounds_toArray, List.set_cons_zero, List.set_cons_succ])
          refine wpAnyIn_ready (rs := [4, 8]) (by kernel_rfl) (by simp) ?_
          refine AllReadyIn.cons (o := { dst := some 17, op := Op.call { callee := Callee.value (Operand.func 21), args := #[Operand.tmp 14, Operand.tmp 16], argTypes := #[9, 9] }, type := 3, pos := "label.go:39", after := #[{ on := 1, ground := Ground.data }, { on := 3, ground := Ground.data }], guard := none }) rfl (fun K0 hK0 => ?_) ?_
          · go_simp
            refine ⟨trivial, fun _ => by omega, (callsIn_wide.2 (ahead_any _ _ _)).mono ?_⟩
            rintro e W6 ⟨rfl, hW6⟩
            replace hW6 := hW6.symm
            subst hW6
            refine hK0 _ _ ?_
            clear hK0 K0
            (try simp only [Act.put, List.setIfInBounds_toArray, List.set_cons_zero, List.set_cons_succ])
            refine wpAnyIn_ready (rs := [8]) (by kernel_rfl) (by simp) ?_
            refine AllReadyIn.cons (o := { dst := some 21, op := Op.load 9 (Operand.tmp 20), type := 9, pos := "label.go:39", after := #[{ on := 7, ground := Ground.data }], guard := none }) rfl (fun K0 hK0 => ?_) ?_
            · go_simp
              refine hK0 _ _ ?_
              clear hK0 K0
              (try simp only [Act.put, List.setIfInBounds_toArray, List.set_cons_zero, List.set_cons_succ])
              refine wpAnyIn_ready (rs := [9]) (by kernel_rfl) (by simp) ?_
              refine AllReadyIn.cons (o := { dst := some 22, op := Op.call { callee := Callee.value (Operand.func 21), args := #[Operand.tmp 19, Operand.tmp 21], argTypes := #[9, 9] }, type := 3, pos := "label.go:39", after := #[{ on := 6, ground := Ground.data }, { on := 8, ground := Ground.data }, { on := 4, ground := Ground.chain }], guard := none }) rfl (fun K0 hK0 => ?_) ?_
              · go_simp
                refine ⟨trivial, fun _ => by omega, (callsIn_wide.2 (ahead_any _ _ _)).mono ?_⟩
                rintro e W6 ⟨rfl, hW6⟩
                replace hW6 := hW6.symm
                subst hW6
                refine hK0 _ _ ?_
                clear hK0 K0
                (try simp only [Act.put, List.setIfInBounds_toArray, List.set_cons_zero, List.set_cons_succ])
                refine wpAnyIn_ready (rs := [10]) (by kernel_rfl) (by simp) ?_
                refine AllReadyIn.cons (o := { dst := some 23, op := Op.buildSlice 52 2 #[(0, Operand.tmp 17), (1, Operand.tmp 22)], type := 52, pos := "label.go:39", after := #[{ on := 4, ground := Ground.data }, { on := 9, ground := Ground.data }], guard := none }) rfl (fun K0 hK0 => ?_) ?_
                · go_simp
                  refine hK0 _ _ ?_
                  clear hK0 K0
                  (try simp only [Act.put, List.setIfInBounds_toArray, List.set_cons_zero, List.set_cons_succ])
                  refine wpAnyIn_ready (rs := [11]) (by kernel_rfl) (by simp) ?_
                  refine AllReadyIn.cons (o := { dst := some 24, op := Op.call { callee := Callee.value (Operand.func 20), args := #[Operand.tmp 23], argTypes := #[52] }, type := 3, pos := "label.go:39", after := #[{ on := 10, ground := Ground.data }, { on := 9, ground := Ground.chain }], guard := none }) rfl (fun K0 hK0 => ?_) ?_
                  · go_simp
                    refine ⟨trivial, fun _ => by omega, (callsIn_wide.2 (or_any (s3 x.1.1 x.2.1) (s3 x.1.2 x.2.2) W5.heap.size _ (cells2 W5 _ _ 3).1 (cells2 W5 _ _ 3).2)).mono ?_⟩
                    rintro e W6 ⟨rfl, hW6⟩
                    replace hW6 := hW6.symm
                    subst hW6
                    refine hK0 _ _ ?_
                    clear hK0 K0
                    (try simp only [Act.put, List.setIfInBounds_toArray, List.set_cons_zero, List.set_cons_succ])
                    refine wpAnyIn_ready (rs := [12]) (by kernel_rfl) (by simp) ?_
                    refine AllReadyIn.cons (o := { dst := some 7, op := Op.assign (Operand.tmp 24), type := 3, pos := "label.go:39", after := #[{ on := 11, ground := Ground.data }, { on := 11, ground := Ground.chain }, { on := 0, ground := Ground.phase }, { on := 1, ground := Ground.phase }, { on := 2, ground := Ground.phase }, { on := 3, ground := Ground.phase }, { on := 4, ground := Ground.phase }, { on := 5, ground := Ground.phase }, { on := 6, ground := Ground.phase }, { on := 7, ground := Ground.phase }, { on := 8, ground := Ground.phase }, { on := 9, ground := Ground.phase }, { on := 10, ground := Ground.phase }, { on := 11, ground := Ground.phase }], guard := none }) rfl (fun K0 hK0 => ?_) ?_
                    · go_simp
                      refine hK0 _ _ ?_
                      clear hK0 K0
                      (try simp only [Act.put, List.setIfInBounds_toArray, List.set_cons_zero, List.set_cons_succ])
                      refine wpAnyIn_done (by kernel_rfl) ?_ _
                      have b6 := hb5.out.alloc (.cells #[.int .i64 (s3 x.1.1 x.2.1), .int .i64 (s3 x.1.2 x.2.2)] 3)
                      have B6 := hide (B5.out.alloc B5.out.size (.cells #[.int .i64 (s3 x.1.1 x.2.1), .int .i64 (s3 x.1.2 x.2.2)] 3))
                      have N6 := hide (N5.out.alloc B5.out.size (.cells #[.int .i64 (s3 x.1.1 x.2.1), .int .i64 (s3 x.1.2 x.2.2)] 3))
                      have M6 := hide (M5.out.trans (KeepsOthers.alloc W5 (.cells #[.int .i64 (s3 x.1.1 x.2.1), .int .i64 (s3 x.1.2 x.2.2)] 3)))
                      generalize W5.alloc (.cells #[.int .i64 (s3 x.1.1 x.2.1), .int .i64 (s3 x.1.2 x.2.2)] 3) = W6 at b6 B6 N6 M6 ⊢
                      have q6 := b6.cell
                      have f6 := b6.frozen
                      replace b6 := hide b6
                      clear x0 x1 x2 x3 hW5 B5 N5 M5 hb5
                      rcases Decidable.em (or2 (s3 x.1.1 x.2.1) (s3 x.1.2 x.2.2) = 0) with hq | hq
                      · gi_wp2
                        exact ⟨M6.out.from _, N6.out, ⟨fun y hy => by
                          rcases List.mem_append.1 hy with h | h
                          · exact hz.out y h
                          · rw [List.mem_singleton.1 h]; exact hq, b6.out⟩, B6.out⟩
                      · gi_wp2
                        exact ⟨(M6.out.trans (KeepsOthers.setCell _ _ _)).from _, rfl, ⟨pre, x, rfl, hz.out, hq, b6.out.set _⟩, (BB.trans (B6.out.mono (Nat.le_of_lt zz))).setCell (Nat.le_refl _) _⟩
                    exact AllReadyIn.nil
                  exact AllReadyIn.nil
                exact AllReadyIn.nil
              exact AllReadyIn.nil
            exact AllReadyIn.nil
          refine AllReadyIn.cons (o := { dst := some 21, op := Op.load 9 (Operand.tmp 20), type := 9, pos := "label.go:39", after := #[{ on := 7, ground := Ground.data }], guard := none }) rfl (fun K0 hK0 => ?_) ?_
          · go_simp
            refine hK0 _ _ ?_
            clear hK0 K0
            (try simp only [Act.put, List.setIfInBounds_toArray, List.set_cons_zero, List.set_cons_succ])
            refine wpAnyIn_ready (rs := [4]) (by kernel_rfl) (by simp) ?_
            refine AllReadyIn.cons (o := { dst := some 17, op := Op.call { callee := Callee.value (Operand.func 21), args := #[Operand.tmp 14, Operand.tmp 16], argTypes := #[9, 9] }, type := 3, pos := "label.go:39", after := #[{ on := 1, ground := Ground.data }, { on := 3, ground := Ground.data }], guard := none }) rfl (fun K0 hK0 => ?_) ?_
            · go_simp
              refine ⟨trivial, fun _ => by omega, (callsIn_wide.2 (ahead_any _ _ _)).mono ?_⟩
              rintro e W6 ⟨rfl, hW6⟩
              replace hW6 := hW6.symm
              subst hW6
              refine hK0 _ _ ?_
              clear hK0 K0
              (try simp only [Act.put, List.setIfInBounds_toArray, List.set_cons_zero, List.set_cons_succ])
              refine wpAnyIn_ready (rs := [9]) (by kernel_rfl) (by simp) ?_
              refine AllReadyIn.cons (o := { dst := some 22, op := Op.call { callee := Callee.value (Operand.func 21), args := #[Operand.tmp 19, Operand.tmp 21], argTypes := #[9, 9] }, type := 3, pos := "label.go:39", after := #[{ on := 6, ground := Ground.data }, { on := 8, ground := Ground.data }, { on := 4, ground := Ground.chain }], guard := none }) rfl (fun K0 hK0 => ?_) ?_
              · go_simp
                refine ⟨trivial, fun _ => by omega, (callsIn_wide.2 (ahead_any _ _ _)).mono ?_⟩
                rintro e W6 ⟨rfl, hW6⟩
                replace hW6 := hW6.symm
                subst hW6
                refine hK0 _ _ ?_
                clear hK0 K0
                (try simp only [Act.put, List.setIfInBounds_toArray, List.set_cons_zero, List.set_cons_succ])
                refine wpAnyIn_ready (rs := [10]) (by kernel_rfl) (by simp) ?_
                refine AllReadyIn.cons (o := { dst := some 23, op := Op.buildSlice 52 2 #[(0, Operand.tmp 17), (1, Operand.tmp 22)], type := 52, pos := "label.go:39", after := #[{ on := 4, ground := Ground.data }, { on := 9, ground := Ground.data }], guard := none }) rfl (fun K0 hK0 => ?_) ?_
                · go_simp
                  refine hK0 _ _ ?_
                  clear hK0 K0
                  (try simp only [Act.put, List.setIfInBounds_toArray, List.set_cons_zero, List.set_cons_succ])
                  refine wpAnyIn_ready (rs := [11]) (by kernel_rfl) (by simp) ?_
                  refine AllReadyIn.cons (o := { dst := some 24, op := Op.call { callee := Callee.value (Operand.func 20), args := #[Operand.tmp 23], argTypes := #[52] }, type := 3, pos := "label.go:39", after := #[{ on := 10, ground := Ground.data }, { on := 9, ground := Ground.chain }], guard := none }) rfl (fun K0 hK0 => ?_) ?_
                  · go_simp
                    refine ⟨trivial, fun _ => by omega, (callsIn_wide.2 (or_any (s3 x.1.1 x.2.1) (s3 x.1.2 x.2.2) W5.heap.size _ (cells2 W5 _ _ 3).1 (cells2 W5 _ _ 3).2)).mono ?_⟩
                    rintro e W6 ⟨rfl, hW6⟩
                    replace hW6 := hW6.symm
                    subst hW6
                    refine hK0 _ _ ?_
                    clear hK0 K0
                    (try simp only [Act.put, List.setIfInBounds_toArray, List.set_cons_zero, List.set_cons_succ])
                    refine wpAnyIn_ready (rs := [12]) (by kernel_rfl) (by simp) ?_
                    refine AllReadyIn.cons (o := { dst := some 7, op := Op.assign (Operand.tmp 24), type := 3, pos := "label.go:39", after := #[{ on := 11, ground := Ground.data }, { on := 11, ground := Ground.chain }, { on := 0, ground := Ground.phase }, { on := 1, ground := Ground.phase }, { on := 2, ground := Ground.phase }, { on := 3, ground := Ground.phase }, { on := 4, ground := Ground.phase }, { on := 5, ground := Ground.phase }, { on := 6, ground := Ground.phase }, { on := 7, ground := Ground.phase }, { on := 8, ground := Ground.phase }, { on := 9, ground := Ground.phase }, { on := 10, ground := Ground.phase }, { on := 11, ground := Ground.phase }], guard := none }) rfl (fun K0 hK0 => ?_) ?_
                    · go_simp
                      refine hK0 _ _ ?_
                      clear hK0 K0
                      (try simp only [Act.put, List.setIfInBounds_toArray, List.set_cons_zero, List.set_cons_succ])
                      refine wpAnyIn_done (by kernel_rfl) ?_ _
                      have b6 := hb5.out.alloc (.cells #[.int .i64 (s3 x.1.1 x.2.1), .int .i64 (s3 x.1.2 x.2.2)] 3)
                      have B6 := hide (B5.out.alloc B5.out.size (.cells #[.int .i64 (s3 x.1.1 x.2.1), .int .i64 (s3 x.1.2 x.2.2)] 3))
                      have N6 := hide (N5.out.alloc B5.out.size (.cells #[.int .i64 (s3 x.1.1 x.2.1), .int .i64 (s3 x.1.2 x.2.2)] 3))
                      have M6 := hide (M5.out.trans (KeepsOthers.alloc W5 (.cells #[.int .i64 (s3 x.1.1 x.2.1), .int .i64 (s3 x.1.2 x.2.2)] 3)))
                      generalize W5.alloc (.cells #[.int .i64 (s3 x.1.1 x.2.1), .int .i64 (s3 x.1.2 x.2.2)] 3) = W6 at b6 B6 N6 M6 ⊢
                      have q6 := b6.cell
                      have f6 := b6.frozen
                      replace b6 := hide b6
                      clear x0 x1 x2 x3 hW5 B5 N5 M5 hb5
                      rcases Decidable.em (or2 (s3 x.1.1 x.2.1) (s3 x.1.2 x.2.2) = 0) with hq | hq
                      · gi_wp2
                        exact ⟨M6.out.from _, N6.out, ⟨fun y hy => by
                          rcases List.mem_append.1 hy with h | h
                          · exact hz.out y h
                          · rw [List.mem_singleton.1 h]; exact hq, b6.out⟩, B6.out⟩
                      · gi_wp2
                        exact ⟨(M6.out.trans (KeepsOthers.setCell _ _ _)).from _, rfl, ⟨pre, x, rfl, hz.out, hq, b6.out.set _⟩, (BB.trans (B6.out.mono (Nat.le_of_lt zz))).setCell (Nat.le_refl _) _⟩
                    exact AllReadyIn.nil
                  exact AllReadyIn.nil
                exact AllReadyIn.nil
              exact AllReadyIn.nil
            exact AllReadyIn.nil
          exact AllReadyIn.nil
        refine AllReadyIn.cons (o := { dst := some 21, op := Op.load 9 (Operand.tmp 20), type := 9, pos := "label.go:39", after := #[{ on := 7, ground := Ground.data }], guard := none }) rfl (fun K0 hK0 => ?_) ?_
        · go_simp
          refine hK0 _ _ ?_
          clear hK0 K0
          (try simp only [Act.put, List.setIfInBounds_toArray, List.set_cons_zero, List.set_cons_succ])
          refine wpAnyIn_ready (rs := [3]) (by kernel_rfl) (by simp) ?_
          refine AllReadyIn.cons (o := { dst := some 16, op := Op.load 9 (Operand.tmp 15), type := 9, pos := "label.go:39", after := #[{ on := 2, ground := Ground.data }], guard := none }) rfl (fun K0 hK0 => ?_) ?_
          · go_simp
            refine hK0 _ _ ?_
            clear hK0 K0
            (try simp only [Act.put, List.setIfInBounds_toArray, List.set_cons_zero, List.set_cons_succ])
            refine wpAnyIn_ready (rs := [4]) (by kernel_rfl) (by simp) ?_
            refine AllReadyIn.cons (o := { dst := some 17, op := Op.call { callee := Callee.value (Operand.func 21), args := #[Operand.tmp 14, Operand.tmp 16], argTypes := #[9, 9] }, type := 3, pos := "label.go:39", after := #[{ on := 1, ground := Ground.data }, { on := 3, ground := Ground.data }], guard := none }) rfl (fun K0 hK0 => ?_) ?_
            · go_simp
              refine ⟨trivial, fun _ => by omega, (callsIn_wide.2 (ahead_any _ _ _)).mono ?_⟩
              rintro e W6 ⟨rfl, hW6⟩
              replace hW6 := hW6.symm
              subst hW6
              refine hK0 _ _ ?_
              clear hK0 K0
              (try simp only [Act.put, List.setIfInBounds_toArray, List.set_cons_zero, List.set_cons_succ])
              refine wpAnyIn_ready (rs := [9]) (by kernel_rfl) (by simp) ?_
              refine AllReadyIn.cons (o := { dst := some 22, op := Op.call { callee := Callee.value (Operand.func 21), args := #[Operand.tmp 19, Operand.tmp 21], argTypes := #[9, 9] }, type := 3, pos := "label.go:39", after := #[{ on := 6, ground := Ground.data }, { on := 8, ground := Ground.data }, { on := 4, ground := Ground.chain }], guard := none }) rfl (fun K0 hK0 => ?_) ?_
              · go_simp
                refine ⟨trivial, fun _ => by omega, (callsIn_wide.2 (ahead_any _ _ _)).mono ?_⟩
                rintro e W6 ⟨rfl, hW6⟩
                replace hW6 := hW6.symm
                subst hW6
                refine hK0 _ _ ?_
                clear hK0 K0
                (try simp only [Act.put, List.setIfInBounds_toArray, List.set_cons_zero, List.set_cons_succ])
                refine wpAnyIn_ready (rs := [10]) (by kernel_rfl) (by simp) ?_
                refine AllReadyIn.cons (o := { dst := some 23, op := Op.buildSlice 52 2 #[(0, Operand.tmp 17), (1, Operand.tmp 22)], type := 52, pos := "label.go:39", after := #[{ on := 4, ground := Ground.data }, { on := 9, ground := Ground.data }], guard := none }) rfl (fun K0 hK0 => ?_) ?_
                · go_simp
                  refine hK0 _ _ ?_
                  clear hK0 K0
                  (try simp only [Act.put, List.setIfInBounds_toArray, List.set_cons_zero, List.set_cons_succ])
                  refine wpAnyIn_ready (rs := [11]) (by kernel_rfl) (by simp) ?_
                  refine AllReadyIn.cons (o := { dst := some 24, op := Op.call { callee := Callee.value (Operand.func 20), args := #[Operand.tmp 23], argTypes := #[52] }, type := 3, pos := "label.go:39", after := #[{ on := 10, ground := Ground.data }, { on := 9, ground := Ground.chain }], guard := none }) rfl (fun K0 hK0 => ?_) ?_
                  · go_simp
                    refine ⟨trivial, fun _ => by omega, (callsIn_wide.2 (or_any (s3 x.1.1 x.2.1) (s3 x.1.2 x.2.2) W5.heap.size _ (cells2 W5 _ _ 3).1 (cells2 W5 _ _ 3).2)).mono ?_⟩
                    rintro e W6 ⟨rfl, hW6⟩
                    replace hW6 := hW6.symm
                    subst hW6
                    refine hK0 _ _ ?_
                    clear hK0 K0
                    (try simp only [Act.put, List.setIfInBounds_toArray, List.set_cons_zero, List.set_cons_succ])
                    refine wpAnyIn_ready (rs := [12]) (by kernel_rfl) (by simp) ?_
                    refine AllReadyIn.cons (o := { dst := some 7, op := Op.assign (Operand.tmp 24), type := 3, pos := "label.go:39", after := #[{ on := 11, ground := Ground.data }, { on := 11, ground := Ground.chain }, { on := 0, ground := Ground.phase }, { on := 1, ground := Ground.phase }, { on := 2, ground := Ground.phase }, { on := 3, ground := Ground.phase }, { on := 4, ground := Ground.phase }, { on := 5, ground := Ground.phase }, { on := 6, ground := Ground.phase }, { on := 7, ground := Ground.phase }, { on := 8, ground := Ground.phase }, { on := 9, ground := Ground.phase }, { on := 10, ground := Ground.phase }, { on := 11, ground := Ground.phase }], guard := none }) rfl (fun K0 hK0 => ?_) ?_
                    · go_simp
                      refine hK0 _ _ ?_
                      clear hK0 K0
                      (try simp only [Act.put, List.setIfInBounds_toArray, List.set_cons_zero, List.set_cons_succ])
                      refine wpAnyIn_done (by kernel_rfl) ?_ _
                      have b6 := hb5.out.alloc (.cells #[.int .i64 (s3 x.1.1 x.2.1), .int .i64 (s3 x.1.2 x.2.2)] 3)
                      have B6 := hide (B5.out.alloc B5.out.size (.cells #[.int .i64 (s3 x.1.1 x.2.1), .int .i64 (s3 x.1.2 x.2.2)] 3))
                      have N6 := hide (N5.out.alloc B5.out.size (.cells #[.int .i64 (s3 x.1.1 x.2.1), .int .i64 (s3 x.1.2 x.2.2)] 3))
                      have M6 := hide (M5.out.trans (KeepsOthers.alloc W5 (.cells #[.int .i64 (s3 x.1.1 x.2.1), .int .i64 (s3 x.1.2 x.2.2)] 3)))
                      generalize W5.alloc (.cells #[.int .i64 (s3 x.1.1 x.2.1), .int .i64 (s3 x.1.2 x.2.2)] 3) = W6 at b6 B6 N6 M6 ⊢
                      have q6 := b6.cell
                      have f6 := b6.frozen
                      replace b6 := hide b6
                      clear x0 x1 x2 x3 hW5 B5 N5 M5 hb5
                      rcases Decidable.em (or2 (s3 x.1.1 x.2.1) (s3 x.1.2 x.2.2) = 0) with hq | hq
                      · gi_wp2
                        exact ⟨M6.out.from _, N6.out, ⟨fun y hy => by
                          rcases List.mem_append.1 hy with h | h
                          · exact hz.out y h
                          · rw [List.mem_singleton.1 h]; exact hq, b6.out⟩, B6.out⟩
                      · gi_wp2
                        exact ⟨(M6.out.trans (KeepsOthers.setCell _ _ _)).from _, rfl, ⟨pre, x, rfl, hz.out, hq, b6.out.set _⟩, (BB.trans (B6.out.mono (Nat.le_of_lt zz))).setCell (Nat.le_refl _) _⟩
                    exact AllReadyIn.nil
                  exact AllReadyIn.nil
                exact AllReadyIn.nil
              exact AllReadyIn.nil
            exact AllReadyIn.nil
          exact AllReadyIn.nil
        exact AllReadyIn.nil
      refine AllReadyIn.cons (o := { dst := some 16, op := Op.load 9 (Operand.tmp 15), type := 9, pos := "label.go:39", after := #[{ on := 2, ground := Ground.data }], guard := none }) rfl (fun K0 hK0 => ?_) ?_
      · go_simp
        refine hK0 _ _ ?_
        clear hK0 K0
        (try simp only [Act.put, List.setIfInBounds_toArray, List.set_cons_zero, List.set_cons_succ])
        refine wpAnyIn_ready (rs := [1, 8]) (by kernel_rfl) (by simp) ?_
        refine AllReadyIn.cons (o := { dst := some 14, op := Op.load 9 (Operand.tmp 13), type := 9, pos := "label.go:39", after := #[{ on := 0, ground := Ground.data }], guard := none }) rfl (fun K0 hK0 => ?_) ?_
        · go_simp
          refine hK0 _ _ ?_
          clear hK0 K0
          (try simp only [Act.put, List.setIfInBounds_toArray, List.set_cons_zero, List.set_cons_succ])
          refine wpAnyIn_ready (rs := [4, 8]) (by kernel_rfl) (by simp) ?_
          refine AllReadyIn.cons (o := { dst := some 17, op := Op.call { callee := Callee.value (Operand.func 21), args := #[Operand.tmp 14, Operand.tmp 16], argTypes := #[9, 9] }, type := 3, pos := "label.go:39", after := #[{ on := 1, ground := Ground.data }, { on := 3, ground := Ground.data }], guard := none }) rfl (fun K0 hK0 => ?_) ?_
          · go_simp
            refine ⟨trivial, fun _ => by omega, (callsIn_wide.2 (ahead_any _ _ _)).mono ?_⟩
            rintro e W6 ⟨rfl, hW6⟩
            replace hW6 := hW6.symm
            subst hW6
            refine hK0 _ _ ?_
            clear hK0 K0
            (try simp only [Act.put, List.setIfInBounds_toArray, List.set_cons_zero, List.set_cons_succ])
            refine wpAnyIn_ready (rs := [8]) (by kernel_rfl) (by simp) ?_
            refine AllReadyIn.cons (o := { dst := some 21, op := Op.load 9 (Operand.tmp 20), type := 9, pos := "label.go:39", after := #[{ on := 7, ground := Ground.data }], guard := none }) rfl (fun K0 hK0 => ?_) ?_
            · go_simp
              refine hK0 _ _ ?_
              clear hK0 K0
              (try simp only [Act.put, List.setIfInBounds_toArray, List.set_cons_zero, List.set_cons_succ])
              refine wpAnyIn_ready (rs := [9]) (by kernel_rfl) (by simp) ?_
              refine AllReadyIn.cons (o := { dst := some 22, op := Op.call { callee := Callee.value (Operand.func 21), args := #[Operand.tmp 19, Operand.tmp 21], argTypes := #[9, 9] }, type := 3, pos := "label.go:39", after := #[{ on := 6, ground := Ground.data }, { on := 8, ground := Ground.data }, { on := 4, ground := Ground.chain }], guard := none }) rfl (fun K0 hK0 => ?_) ?_
              · go_simp
                refine ⟨trivial, fun _ => by omega, (callsIn_wide.2 (ahead_any _ _ _)).mono ?_⟩
                rintro e W6 ⟨rfl, hW6⟩
                replace hW6 := hW6.symm
                subst hW6
                refine hK0 _ _ ?_
                clear hK0 K0
                (try simp only [Act.put, List.setIfInBounds_toArray, List.set_cons_zero, List.set_cons_succ])
                refine wpAnyIn_ready (rs := [10]) (by kernel_rfl) (by simp) ?_
                refine AllReadyIn.cons (o := { dst := some 23, op := Op.buildSlice 52 2 #[(0, Operand.tmp 17), (1, Operand.tmp 22)], type := 52, pos := "label.go:39", after := #[{ on := 4, ground := Ground.data }, { on := 9, ground := Ground.data }], guard := none }) rfl (fun K0 hK0 => ?_) ?_
                · go_simp
                  refine hK0 _ _ ?_
                  clear hK0 K0
                  (try simp only [Act.put, List.setIfInBounds_toArray, List.set_cons_zero, List.set_cons_succ])
                  refine wpAnyIn_ready (rs := [11]) (by kernel_rfl) (by simp) ?_
                  refine AllReadyIn.cons (o := { dst := some 24, op := Op.call { callee := Callee.value (Operand.func 20), args := #[Operand.tmp 23], argTypes := #[52] }, type := 3, pos := "label.go:39", after := #[{ on := 10, ground := Ground.data }, { on := 9, ground := Ground.chain }], guard := none }) rfl (fun K0 hK0 => ?_) ?_
                  · go_simp
                    refine ⟨trivial, fun _ => by omega, (callsIn_wide.2 (or_any (s3 x.1.1 x.2.1) (s3 x.1.2 x.2.2) W5.heap.size _ (cells2 W5 _ _ 3).1 (cells2 W5 _ _ 3).2)).mono ?_⟩
                    rintro e W6 ⟨rfl, hW6⟩
                    replace hW6 := hW6.symm
                    subst hW6
                    refine hK0 _ _ ?_
                    clear hK0 K0
                    (try simp only [Act.put, List.setIfInBounds_toArray, List.set_cons_zero, List.set_cons_succ])
                    refine wpAnyIn_ready (rs := [12]) (by kernel_rfl) (by simp) ?_
                    refine AllReadyIn.cons (o := { dst := some 7, op := Op.assign (Operand.tmp 24), type := 3, pos := "label.go:39", after := #[{ on := 11, ground := Ground.data }, { on := 11, ground := Ground.chain }, { on := 0, ground := Ground.phase }, { on := 1, ground := Ground.phase }, { on := 2, ground := Ground.phase }, { on := 3, ground := Ground.phase }, { on := 4, ground := Ground.phase }, { on := 5, ground := Ground.phase }, { on := 6, ground := Ground.phase }, { on := 7, ground := Ground.phase }, { on := 8, ground := Ground.phase }, { on := 9, ground := Ground.phase }, { on := 10, ground := Ground.phase }, { on := 11, ground := Ground.phase }], guard := none }) rfl (fun K0 hK0 => ?_) ?_
                    · go_simp
                      refine hK0 _ _ ?_
                      clear hK0 K0
                      (try simp only [Act.put, List.setIfInBounds_toArray, List.set_cons_zero, List.set_cons_succ])
                      refine wpAnyIn_done (by kernel_rfl) ?_ _
                      have b6 := hb5.out.alloc (.cells #[.int .i64 (s3 x.1.1 x.2.1), .int .i64 (s3 x.1.2 x.2.2)] 3)
                      have B6 := hide (B5.out.alloc B5.out.size (.cells #[.int .i64 (s3 x.1.1 x.2.1), .int .i64 (s3 x.1.2 x.2.2)] 3))
                      have N6 := hide (N5.out.alloc B5.out.size (.cells #[.int .i64 (s3 x.1.1 x.2.1), .int .i64 (s3 x.1.2 x.2.2)] 3))
                      have M6 := hide (M5.out.trans (KeepsOthers.alloc W5 (.cells #[.int .i64 (s3 x.1.1 x.2.1), .int .i64 (s3 x.1.2 x.2.2)] 3)))
                      generalize W5.alloc (.cells #[.int .i64 (s3 x.1.1 x.2.1), .int .i64 (s3 x.1.2 x.2.2)] 3) = W6 at b6 B6 N6 M6 ⊢
                      have q6 := b6.cell
                      have f6 := b6.frozen
                      replace b6 := hide b6
                      clear x0 x1 x2 x3 hW5 B5 N5 M5 hb5
                      rcases Decidable.em (or2 (s3 x.1.1 x.2.1) (s3 x.1.2 x.2.2) = 0) with hq | hq
                      · gi_wp2
                        exact ⟨M6.out.from _, N6.out, ⟨fun y hy => by
                          rcases List.mem_append.1 hy with h | h
                          · exact hz.out y h
                          · rw [List.mem_singleton.1 h]; exact hq, b6.out⟩, B6.out⟩
                      · gi_wp2
                        exact ⟨(M6.out.trans (KeepsOthers.setCell _ _ _)).from _, rfl, ⟨pre, x, rfl, hz.out, hq, b6.out.set _⟩, (BB.trans (B6.out.mono (Nat.le_of_lt zz))).setCell (Nat.le_refl _) _⟩
                    exact AllReadyIn.nil
                  exact AllReadyIn.nil
                exact AllReadyIn.nil
              exact AllReadyIn.nil
            exact AllReadyIn.nil
          refine AllReadyIn.cons (o := { dst := some 21, op := Op.load 9 (Operand.tmp 20), type := 9, pos := "label.go:39", after := #[{ on := 7, ground := Ground.data }], guard := none }) rfl (fun K0 hK0 => ?_) ?_
          · go_simp
            refine hK0 _ _ ?_
            clear hK0 K0
            (try simp only [Act.put, List.setIfInBounds_toArray, List.set_cons_zero, List.set_cons_succ])
            refine wpAnyIn_ready (rs := [4]) (by kernel_rfl) (by simp) ?_
            refine AllReadyIn.cons (o := { dst := some 17, op := Op.call { callee := Callee.value (Operand.func 21), args := #[Operand.tmp 14, Operand.tmp 16], argTypes := #[9, 9] }, type := 3, pos := "label.go:39", after := #[{ on := 1, ground := Ground.data }, { on := 3, ground := Ground.data }], guard := none }) rfl (fun K0 hK0 => ?_) ?_
            · go_simp
              refine ⟨trivial, fun _ => by omega, (callsIn_wide.2 (ahead_any _ _ _)).mono ?_⟩
              rintro e W6 ⟨rfl, hW6⟩
              replace hW6 := hW6.symm
              subst hW6
              refine hK0 _ _ ?_
              clear hK0 K0
              (try simp only [Act.put, List.setIfInBounds_toArray, List.set_cons_zero, List.set_cons_succ])
              refine wpAnyIn_ready (rs := [9]) (by kernel_rfl) (by simp) ?_
              refine AllReadyIn.cons (o := { dst := some 22, op := Op.call { callee := Callee.value (Operand.func 21), args := #[Operand.tmp 19, Operand.tmp 21], argTypes := #[9, 9] }, type := 3, pos := "label.go:39", after := #[{ on := 6, ground := Ground.data }, { on := 8, ground := Ground.data }, { on := 4, ground := Ground.chain }], guard := none }) rfl (fun K0 hK0 => ?_) ?_
              · go_simp
                refine ⟨trivial, fun _ => by omega, (callsIn_wide.2 (ahead_any _ _ _)).mono ?_⟩
                rintro e W6 ⟨rfl, hW6⟩
                replace hW6 := hW6.symm
                subst hW6
                refine hK0 _ _ ?_
                clear hK0 K0
                (try simp only [Act.put, List.setIfInBounds_toArray, List.set_cons_zero, List.set_cons_succ])
                refine wpAnyIn_ready (rs := [10]) (by kernel_rfl) (by simp) ?_
                refine AllReadyIn.cons (o := { dst := some 23, op := Op.buildSlice 52 2 #[(0, Operand.tmp 17), (1, Operand.tmp 22)], type := 52, pos := "label.go:39", after := #[{ on := 4, ground := Ground.data }, { on := 9, ground := Ground.data }], guard := none }) rfl (fun K0 hK0 => ?_) ?_
                · go_simp
                  refine hK0 _ _ ?_
                  clear hK0 K0
                  (try simp only [Act.put, List.setIfInBounds_toArray, List.set_cons_zero, List.set_cons_succ])
                  refine wpAnyIn_ready (rs := [11]) (by kernel_rfl) (by simp) ?_
                  refine AllReadyIn.cons (o := { dst := some 24, op := Op.call { callee := Callee.value (Operand.func 20), args := #[Operand.tmp 23], argTypes := #[52] }, type := 3, pos := "label.go:39", after := #[{ on := 10, ground := Ground.data }, { on := 9, ground := Ground.chain }], guard := none }) rfl (fun K0 hK0 => ?_) ?_
                  · go_simp
                    refine ⟨trivial, fun _ => by omega, (callsIn_wide.2 (or_any (s3 x.1.1 x.2.1) (s3 x.1.2 x.2.2) W5.heap.size _ (cells2 W5 _ _ 3).1 (cells2 W5 _ _ 3).2)).mono ?_⟩
                    rintro e W6 ⟨rfl, hW6⟩
                    replace hW6 := hW6.symm
                    subst hW6
                    refine hK0 _ _ ?_
                    clear hK0 K0
                    (try simp only [Act.put, List.setIfInBounds_toArray, List.set_cons_zero, List.set_cons_succ])
                    refine wpAnyIn_ready (rs := [12]) (by kernel_rfl) (by simp) ?_
                    refine AllReadyIn.cons (o := { dst := some 7, op := Op.assign (Operand.tmp 24), type := 3, pos := "label.go:39", after := #[{ on := 11, ground := Ground.data }, { on := 11, ground := Ground.chain }, { on := 0, ground := Ground.phase }, { on := 1, ground := Ground.phase }, { on := 2, ground := Ground.phase }, { on := 3, ground := Ground.phase }, { on := 4, ground := Ground.phase }, { on := 5, ground := Ground.phase }, { on := 6, ground := Ground.phase }, { on := 7, ground := Ground.phase }, { on := 8, ground := Ground.phase }, { on := 9, ground := Ground.phase }, { on := 10, ground := Ground.phase }, { on := 11, ground := Ground.phase }], guard := none }) rfl (fun K0 hK0 => ?_) ?_
                    · go_simp
                      refine hK0 _ _ ?_
                      clear hK0 K0
                      (try simp only [Act.put, List.setIfInBounds_toArray, List.set_cons_zero, List.set_cons_succ])
                      refine wpAnyIn_done (by kernel_rfl) ?_ _
                      have b6 := hb5.out.alloc (.cells #[.int .i64 (s3 x.1.1 x.2.1), .int .i64 (s3 x.1.2 x.2.2)] 3)
                      have B6 := hide (B5.out.alloc B5.out.size (.cells #[.int .i64 (s3 x.1.1 x.2.1), .int .i64 (s3 x.1.2 x.2.2)] 3))
                      have N6 := hide (N5.out.alloc B5.out.size (.cells #[.int .i64 (s3 x.1.1 x.2.1), .int .i64 (s3 x.1.2 x.2.2)] 3))
                      have M6 := hide (M5.out.trans (KeepsOthers.alloc W5 (.cells #[.int .i64 (s3 x.1.1 x.2.1), .int .i64 (s3 x.1.2 x.2.2)] 3)))
                      generalize W5.alloc (.cells #[.int .i64 (s3 x.1.1 x.2.1), .int .i64 (s3 x.1.2 x.2.2)] 3) = W6 at b6 B6 N6 M6 ⊢
                      have q6 := b6.cell
                      have f6 := b6.frozen
                      replace b6 := hide b6
                      clear x0 x1 x2 x3 hW5 B5 N5 M5 hb5
                      rcases Decidable.em (or2 (s3 x.1.1 x.2.1) (s3 x.1.2 x.2.2) = 0) with hq | hq
                      · gi_wp2
                        exact ⟨M6.out.from _, N6.out, ⟨fun y hy => by
                          rcases List.mem_append.1 hy with h | h
                          · exact hz.out y h
                          · rw [List.mem_singleton.1 h]; exact hq, b6.out⟩, B6.out⟩
                      · gi_wp2
                        exact ⟨(M6.out.trans (KeepsOthers.setCell _ _ _)).from _, rfl, ⟨pre, x, rfl, hz.out, hq, b6.out.set _⟩, (BB.trans (B6.out.mono (Nat.le_of_lt zz))).setCell (Nat.le_refl _) _⟩
                    exact AllReadyIn.nil
                  exact AllReadyIn.nil
                exact AllReadyIn.nil
              exact AllReadyIn.nil
            exact AllReadyIn.nil
          exact AllReadyIn.nil
        refine AllReadyIn.cons (o := { dst := some 21, op := Op.load 9 (Operand.tmp 20), type := 9, pos := "label.go:39", after := #[{ on := 7, ground := Ground.data }], guard := none }) rfl (fun K0 hK0 => ?_) ?_
        · go_simp
          refine hK0 _ _ ?_
          clear hK0 K0
          (try simp only [Act.put, List.setIfInBounds_toArray, List.set_cons_zero, List.set_cons_succ])
          refine wpAnyIn_ready (rs := [1]) (by kernel_rfl) (by simp) ?_
          refine AllReadyIn.cons (o := { dst := some 14, op := Op.load 9 (Operand.tmp 13), type := 9, pos := "label.go:39", after := #[{ on := 0, ground := Ground.data }], guard := none }) rfl (fun K0 hK0 => ?_) ?_
          · go_simp
            refine hK0 _ _ ?_
            clear hK0 K0
            (try simp only [Act.put, List.setIfInBounds_toArray, List.set_cons_zero, List.set_cons_succ])
            refine wpAnyIn_ready (rs := [4]) (by kernel_rfl) (by simp) ?_
            refine AllReadyIn.cons (o := { dst := some 17, op := Op.call { callee := Callee.value (Operand.func 21), args := #[Operand.tmp 14, Operand.tmp 16], argTypes := #[9, 9] }, type := 3, pos := "label.go:39", after := #[{ on := 1, ground := Ground.data }, { on := 3, ground := Ground.data }], guard := none }) rfl (fun K0 hK0 => ?_) ?_
            · go_simp
              refine ⟨trivial, fun _ => by omega, (callsIn_wide.2 (ahead_any _ _ _)).mono ?_⟩
              rintro e W6 ⟨rfl, hW6⟩
              replace hW6 := hW6.symm
              subst hW6
              refine hK0 _ _ ?_
              clear hK0 K0
              (try simp only [Act.put, List.setIfInBounds_toArray, List.set_cons_zero, List.set_cons_succ])
              refine wpAnyIn_ready (rs := [9]) (by kernel_rfl) (by simp) ?_
              refine AllReadyIn.cons (o := { dst := some 22, op := Op.call { callee := Callee.value (Operand.func 21), args := #[Operand.tmp 19, Operand.tmp 21], argTypes := #[9, 9] }, type := 3, pos := "label.go:39", after := #[{ on := 6, ground := Ground.data }, { on := 8, ground := Ground.data }, { on := 4, ground := Ground.chain }], guard := none }) rfl (fun K0 hK0 => ?_) ?_
              · go_simp
                refine ⟨trivial, fun _ => by omega, (callsIn_wide.2 (ahead_any _ _ _)).mono ?_⟩
                rintro e W6 ⟨rfl, hW6⟩
                replace hW6 := hW6.symm
                subst hW6
                refine hK0 _ _ ?_
                clear hK0 K0
                (try simp only [Act.put, List.setIfInBounds_toArray, List.set_cons_zero, List.set_cons_succ])
                refine wpAnyIn_ready (rs := [10]) (by kernel_rfl) (by simp) ?_
                refine AllReadyIn.cons (o := { dst := some 23, op := Op.buildSlice 52 2 #[(0, Operand.tmp 17), (1, Operand.tmp 22)], type := 52, pos := "label.go:39", after := #[{ on := 4, ground := Ground.data }, { on := 9, ground := Ground.data }], guard := none }) rfl (fun K0 hK0 => ?_) ?_
                · go_simp
                  refine hK0 _ _ ?_
                  clear hK0 K0
                  (try simp only [Act.put, List.setIfInBounds_toArray, List.set_cons_zero, List.set_cons_succ])
                  refine wpAnyIn_ready (rs := [11]) (by kernel_rfl) (by simp) ?_
                  refine AllReadyIn.cons (o := { dst := some 24, op := Op.call { callee := Callee.value (Operand.func 20), args := #[Operand.tmp 23], argTypes := #[52] }, type := 3, pos := "label.go:39", after := #[{ on := 10, ground := Ground.data }, { on := 9, ground := Ground.chain }], guard := none }) rfl (fun K0 hK0 => ?_) ?_
                  · go_simp
                    refine ⟨trivial, fun _ => by omega, (callsIn_wide.2 (or_any (s3 x.1.1 x.2.1) (s3 x.1.2 x.2.2) W5.heap.size _ (cells2 W5 _ _ 3).1 (cells2 W5 _ _ 3).2)).mono ?_⟩
                    rintro e W6 ⟨rfl, hW6⟩
                    replace hW6 := hW6.symm
                    subst hW6
                    refine hK0 _ _ ?_
                    clear hK0 K0
                    (try simp only [Act.put, List.setIfInBounds_toArray, List.set_cons_zero, List.set_cons_succ])
                    refine wpAnyIn_ready (rs := [12]) (by kernel_rfl) (by simp) ?_
                    refine AllReadyIn.cons (o := { dst := some 7, op := Op.assign (Operand.tmp 24), type := 3, pos := "label.go:39", after := #[{ on := 11, ground := Ground.data }, { on := 11, ground := Ground.chain }, { on := 0, ground := Ground.phase }, { on := 1, ground := Ground.phase }, { on := 2, ground := Ground.phase }, { on := 3, ground := Ground.phase }, { on := 4, ground := Ground.phase }, { on := 5, ground := Ground.phase }, { on := 6, ground := Ground.phase }, { on := 7, ground := Ground.phase }, { on := 8, ground := Ground.phase }, { on := 9, ground := Ground.phase }, { on := 10, ground := Ground.phase }, { on := 11, ground := Ground.phase }], guard := none }) rfl (fun K0 hK0 => ?_) ?_
                    · go_simp
                      refine hK0 _ _ ?_
                      clear hK0 K0
                      (try simp only [Act.put, List.setIfInBounds_toArray, List.set_cons_zero, List.set_cons_succ])
                      refine wpAnyIn_done (by kernel_rfl) ?_ _
                      have b6 := hb5.out.alloc (.cells #[.int .i64 (s3 x.1.1 x.2.1), .int .i64 (s3 x.1.2 x.2.2)] 3)
                      have B6 := hide (B5.out.alloc B5.out.size (.cells #[.int .i64 (s3 x.1.1 x.2.1), .int .i64 (s3 x.1.2 x.2.2)] 3))
                      have N6 := hide (N5.out.alloc B5.out.size (.cells #[.int .i64 (s3 x.1.1 x.2.1), .int .i64 (s3 x.1.2 x.2.2)] 3))
                      have M6 := hide (M5.out.trans (KeepsOthers.alloc W5 (.cells #[.int .i64 (s3 x.1.1 x.2.1), .int .i64 (s3 x.1.2 x.2.2)] 3)))
                      generalize W5.alloc (.cells #[.int .i64 (s3 x.1.1 x.2.1), .int .i64 (s3 x.1.2 x.2.2)] 3) = W6 at b6 B6 N6 M6 ⊢
                      have q6 := b6.cell
                      have f6 := b6.frozen
                      replace b6 := hide b6
                      clear x0 x1 x2 x3 hW5 B5 N5 M5 hb5
                      rcases Decidable.em (or2 (s3 x.1.1 x.2.1) (s3 x.1.2 x.2.2) = 0) with hq | hq
                      · gi_wp2
                        exact ⟨M6.out.from _, N6.out, ⟨fun y hy => by
                          rcases List.mem_append.1 hy with h | h
                          · exact hz.out y h
                          · rw [List.mem_singleton.1 h]; exact hq, b6.out⟩, B6.out⟩
                      · gi_wp2
                        exact ⟨(M6.out.trans (KeepsOthers.setCell _ _ _)).from _, rfl, ⟨pre, x, rfl, hz.out, hq, b6.out.set _⟩, (BB.trans (B6.out.mono (Nat.le_of_lt zz))).setCell (Nat.le_refl _) _⟩
                    exact AllReadyIn.nil
                  exact AllReadyIn.nil
                exact AllReadyIn.nil
              exact AllReadyIn.nil
            exact AllReadyIn.nil
          exact AllReadyIn.nil
        exact AllReadyIn.nil
      refine AllReadyIn.cons (o := { dst := some 21, op := Op.load 9 (Operand.tmp 20), type := 9, pos := "label.go:39", after := #[{ on := 7, ground := Ground.data }], guard := none }) rfl (fun K0 hK0 => ?_) ?_
      · go_simp
        refine hK0 _ _ ?_
        clear hK0 K0
        (try simp only [Act.put, List.setIfInBounds_toArray, List.set_cons_zero, List.set_cons_succ])
        refine wpAnyIn_ready (rs := [1, 3]) (by kernel_rfl) (by simp) ?_
        refine AllReadyIn.cons (o := { dst := some 14, op := Op.load 9 (Operand.tmp 13), type := 9, pos := "label.go:39", after := #[{ on := 0, ground := Ground.data }], guard := none }) rfl (fun K0 hK0 => ?_) ?_
        · go_simp
          refine hK0 _ _ ?_
          clear hK0 K0
          (try simp only [Act.put, List.setIfInBounds_toArray, List.set_cons_zero, List.set_cons_succ])
          refine wpAnyIn_ready (rs := [3]) (by kernel_rfl) (by simp) ?_
          refine AllReadyIn.cons (o := { dst := some 16, op := Op.load 9 (Operand.tmp 15), type := 9, pos := "label.go:39", after := #[{ on := 2, ground := Ground.data }], guard := none }) rfl (fun K0 hK0 => ?_) ?_
          · go_simp
            refine hK0 _ _ ?_
            clear hK0 K0
            (try simp only [Act.put, List.setIfInBounds_toArray, List.set_cons_zero, List.set_cons_succ])
            refine wpAnyIn_ready (rs := [4]) (by kernel_rfl) (by simp) ?_
            refine AllReadyIn.cons (o := { dst := some 17, op := Op.call { callee := Callee.value (Operand.func 21), args := #[Operand.tmp 14, Operand.tmp 16], argTypes := #[9, 9] }, type := 3, pos := "label.go:39", after := #[{ on := 1, ground := Ground.data }, { on := 3, ground := Ground.data }], guard := none }) rfl (fun K0 hK0 => ?_) ?_
            · go_simp
              refine ⟨trivial, fun _ => by omega, (callsIn_wide.2 (ahead_any _ _ _)).mono ?_⟩
              rintro e W6 ⟨rfl, hW6⟩
              replace hW6 := hW6.symm
              subst hW6
              refine hK0 _ _ ?_
              clear hK0 K0
              (try simp only [Act.put, List.setIfInBounds_toArray, List.set_cons_zero, List.set_cons_succ])
              refine wpAnyIn_ready (rs := [9]) (by kernel_rfl) (by simp) ?_
              refine AllReadyIn.cons (o := { dst := some 22, op := Op.call { callee := Callee.value (Operand.func 21), args := #[Operand.tmp 19, Operand.tmp 21], argTypes := #[9, 9] }, type := 3, pos := "label.go:39", after := #[{ on := 6, ground := Ground.data }, { on := 8, ground := Ground.data }, { on := 4, ground := Ground.chain }], guard := none }) rfl (fun K0 hK0 => ?_) ?_
              · go_simp
                refine ⟨trivial, fun _ => by omega, (callsIn_wide.2 (ahead_any _ _ _)).mono ?_⟩
                rintro e W6 ⟨rfl, hW6⟩
                replace hW6 := hW6.symm
                subst hW6
                refine hK0 _ _ ?_
                clear hK0 K0
                (try simp only [Act.put, List.setIfInBounds_toArray, List.set_cons_zero, List.set_cons_succ])
                refine wpAnyIn_ready (rs := [10]) (by kernel_rfl) (by simp) ?_
                refine AllReadyIn.cons (o := { dst := some 23, op := Op.buildSlice 52 2 #[(0, Operand.tmp 17), (1, Operand.tmp 22)], type := 52, pos := "label.go:39", after := #[{ on := 4, ground := Ground.data }, { on := 9, ground := Ground.data }], guard := none }) rfl (fun K0 hK0 => ?_) ?_
                · go_simp
                  refine hK0 _ _ ?_
                  clear hK0 K0
                  (try simp only [Act.put, List.setIfInBounds_toArray, List.set_cons_zero, List.set_cons_succ])
                  refine wpAnyIn_ready (rs := [11]) (by kernel_rfl) (by simp) ?_
                  refine AllReadyIn.cons (o := { dst := some 24, op := Op.call { callee := Callee.value (Operand.func 20), args := #[Operand.tmp 23], argTypes := #[52] }, type := 3, pos := "label.go:39", after := #[{ on := 10, ground := Ground.data }, { on := 9, ground := Ground.chain }], guard := none }) rfl (fun K0 hK0 => ?_) ?_
                  · go_simp
                    refine ⟨trivial, fun _ => by omega, (callsIn_wide.2 (or_any (s3 x.1.1 x.2.1) (s3 x.1.2 x.2.2) W5.heap.size _ (cells2 W5 _ _ 3).1 (cells2 W5 _ _ 3).2)).mono ?_⟩
                    rintro e W6 ⟨rfl, hW6⟩
                    replace hW6 := hW6.symm
                    subst hW6
                    refine hK0 _ _ ?_
                    clear hK0 K0
                    (try simp only [Act.put, List.setIfInBounds_toArray, List.set_cons_zero, List.set_cons_succ])
                    refine wpAnyIn_ready (rs := [12]) (by kernel_rfl) (by simp) ?_
                    refine AllReadyIn.cons (o := { dst := some 7, op := Op.assign (Operand.tmp 24), type := 3, pos := "label.go:39", after := #[{ on := 11, ground := Ground.data }, { on := 11, ground := Ground.chain }, { on := 0, ground := Ground.phase }, { on := 1, ground := Ground.phase }, { on := 2, ground := Ground.phase }, { on := 3, ground := Ground.phase }, { on := 4, ground := Ground.phase }, { on := 5, ground := Ground.phase }, { on := 6, ground := Ground.phase }, { on := 7, ground := Ground.phase }, { on := 8, ground := Ground.phase }, { on := 9, ground := Ground.phase }, { on := 10, ground := Ground.phase }, { on := 11, ground := Ground.phase }], guard := none }) rfl (fun K0 hK0 => ?_) ?_
                    · go_simp
                      refine hK0 _ _ ?_
                      clear hK0 K0
                      (try simp only [Act.put, List.setIfInBounds_toArray, List.set_cons_zero, List.set_cons_succ])
                      refine wpAnyIn_done (by kernel_rfl) ?_ _
                      have b6 := hb5.out.alloc (.cells #[.int .i64 (s3 x.1.1 x.2.1), .int .i64 (s3 x.1.2 x.2.2)] 3)
                      have B6 := hide (B5.out.alloc B5.out.size (.cells #[.int .i64 (s3 x.1.1 x.2.1), .int .i64 (s3 x.1.2 x.2.2)] 3))
                      have N6 := hide (N5.out.alloc B5.out.size (.cells #[.int .i64 (s3 x.1.1 x.2.1), .int .i64 (s3 x.1.2 x.2.2)] 3))
                      have M6 := hide (M5.out.trans (KeepsOthers.alloc W5 (.cells #[.int .i64 (s3 x.1.1 x.2.1), .int .i64 (s3 x.1.2 x.2.2)] 3)))
                      generalize W5.alloc (.cells #[.int .i64 (s3 x.1.1 x.2.1), .int .i64 (s3 x.1.2 x.2.2)] 3) = W6 at b6 B6 N6 M6 ⊢
                      have q6 := b6.cell
                      have f6 := b6.frozen
                      replace b6 := hide b6
                      clear x0 x1 x2 x3 hW5 B5 N5 M5 hb5
                      rcases Decidable.em (or2 (s3 x.1.1 x.2.1) (s3 x.1.2 x.2.2) = 0) with hq | hq
                      · gi_wp2
                        exact ⟨M6.out.from _, N6.out, ⟨fun y hy => by
                          rcases List.mem_append.1 hy with h | h
                          · exact hz.out y h
                          · rw [List.mem_singleton.1 h]; exact hq, b6.out⟩, B6.out⟩
                      · gi_wp2
                        exact ⟨(M6.out.trans (KeepsOthers.setCell _ _ _)).from _, rfl, ⟨pre, x, rfl, hz.out, hq, b6.out.set _⟩, (BB.trans (B6.out.mono (Nat.le_of_lt zz))).setCell (Nat.le_refl _) _⟩
                    exact AllReadyIn.nil
                  exact AllReadyIn.nil
                exact AllReadyIn.nil
              exact AllReadyIn.nil
            exact AllReadyIn.nil
          exact AllReadyIn.nil
        refine AllReadyIn.cons (o := { dst := some 16, op := Op.load 9 (Operand.tmp 15), type := 9, pos := "label.go:39", after := #[{ on := 2, ground := Ground.data }], guard := none }) rfl (fun K0 hK0 => ?_) ?_
        · go_simp
          refine hK0 _ _ ?_
          clear hK0 K0
          (try simp only [Act.put, List.setIfInBounds_toArray, List.set_cons_zero, List.set_cons_succ])
          refine wpAnyIn_ready (rs := [1]) (by kernel_rfl) (by simp) ?_
          refine AllReadyIn.cons (o := { dst := some 14, op := Op.load 9 (Operand.tmp 13), type := 9, pos := "label.go:39", after := #[{ on := 0, ground := Ground.data }], guard := none }) rfl (fun K0 hK0 => ?_) ?_
          · go_simp
            refine hK0 _ _ ?_
            clear hK0 K0
            (try simp only [Act.put, List.setIfInBounds_toArray, List.set_cons_zero, List.set_cons_succ])
            refine wpAnyIn_ready (rs := [4]) (by kernel_rfl) (by simp) ?_
            refine AllReadyIn.cons (o := { dst := some 17, op := Op.call { callee := Callee.value (Operand.func 21), args := #[Operand.tmp 14, Operand.tmp 16], argTypes := #[9, 9] }, type := 3, pos := "label.go:39", after := #[{ on := 1, ground := Ground.data }, { on := 3, ground := Ground.data }], guard := none }) rfl (fun K0 hK0 => ?_) ?_
            · go_simp
              refine ⟨trivial, fun _ => by omega, (callsIn_wide.2 (ahead_any _ _ _)).mono ?_⟩
              rintro e W6 ⟨rfl, hW6⟩
              replace hW6 := hW6.symm
              subst hW6
              refine hK0 _ _ ?_
              clear hK0 K0
              (try simp only [Act.put, List.setIfInBounds_toArray, List.set_cons_zero, List.set_cons_succ])
              refine wpAnyIn_ready (rs := [9]) (by kernel_rfl) (by simp) ?_
              refine AllReadyIn.cons (o := { dst := some 22, op := Op.call { callee := Callee.value (Operand.func 21), args := #[Operand.tmp 19, Operand.tmp 21], argTypes := #[9, 9] }, type := 3, pos := "label.go:39", after := #[{ on := 6, ground := Ground.data }, { on := 8, ground := Ground.data }, { on := 4, ground := Ground.chain }], guard := none }) rfl (fun K0 hK0 => ?_) ?_
              · go_simp
                refine ⟨trivial, fun _ => by omega, (callsIn_wide.2 (ahead_any _ _ _)).mono ?_⟩
                rintro e W6 ⟨rfl, hW6⟩
                replace hW6 := hW6.symm
                subst hW6
                refine hK0 _ _ ?_
                clear hK0 K0
                (try simp only [Act.put, List.setIfInBounds_toArray, List.set_cons_zero, List.set_cons_succ])
                refine wpAnyIn_ready (rs := [10]) (by kernel_rfl) (by simp) ?_
                refine AllReadyIn.cons (o := { dst := some 23, op := Op.buildSlice 52 2 #[(0, Operand.tmp 17), (1, Operand.tmp 22)], type := 52, pos := "label.go:39", after := #[{ on := 4, ground := Ground.data }, { on := 9, ground := Ground.data }], guard := none }) rfl (fun K0 hK0 => ?_) ?_
                · go_simp
                  refine hK0 _ _ ?_
                  clear hK0 K0
                  (try simp only [Act.put, List.setIfInBounds_toArray, List.set_cons_zero, List.set_cons_succ])
                  refine wpAnyIn_ready (rs := [11]) (by kernel_rfl) (by simp) ?_
                  refine AllReadyIn.cons (o := { dst := some 24, op := Op.call { callee := Callee.value (Operand.func 20), args := #[Operand.tmp 23], argTypes := #[52] }, type := 3, pos := "label.go:39", after := #[{ on := 10, ground := Ground.data }, { on := 9, ground := Ground.chain }], guard := none }) rfl (fun K0 hK0 => ?_) ?_
                  · go_simp
                    refine ⟨trivial, fun _ => by omega, (callsIn_wide.2 (or_any (s3 x.1.1 x.2.1) (s3 x.1.2 x.2.2) W5.heap.size _ (cells2 W5 _ _ 3).1 (cells2 W5 _ _ 3).2)).mono ?_⟩
                    rintro e W6 ⟨rfl, hW6⟩
                    replace hW6 := hW6.symm
                    subst hW6
                    refine hK0 _ _ ?_
                    clear hK0 K0
                    (try simp only [Act.put, List.setIfInBounds_toArray, List.set_cons_zero, List.set_cons_succ])
                    refine wpAnyIn_ready (rs := [12]) (by kernel_rfl) (by simp) ?_
                    refine AllReadyIn.cons (o := { dst := some 7, op := Op.assign (Operand.tmp 24), type := 3, pos := "label.go:39", after := #[{ on := 11, ground := Ground.data }, { on := 11, ground := Ground.chain }, { on := 0, ground := Ground.phase }, { on := 1, ground := Ground.phase }, { on := 2, ground := Ground.phase }, { on := 3, ground := Ground.phase }, { on := 4, ground := Ground.phase }, { on := 5, ground := Ground.phase }, { on := 6, ground := Ground.phase }, { on := 7, ground := Ground.phase }, { on := 8, ground := Ground.phase }, { on := 9, ground := Ground.phase }, { on := 10, ground := Ground.phase }, { on := 11, ground := Ground.phase }], guard := none }) rfl (fun K0 hK0 => ?_) ?_
                    · go_simp
                      refine hK0 _ _ ?_
                      clear hK0 K0
                      (try simp only [Act.put, List.setIfInBounds_toArray, List.set_cons_zero, List.set_cons_succ])
                      refine wpAnyIn_done (by kernel_rfl) ?_ _
                      have b6 := hb5.out.alloc (.cells #[.int .i64 (s3 x.1.1 x.2.1), .int .i64 (s3 x.1.2 x.2.2)] 3)
                      have B6 := hide (B5.out.alloc B5.out.size (.cells #[.int .i64 (s3 x.1.1 x.2.1), .int .i64 (s3 x.1.2 x.2.2)] 3))
                      have N6 := hide (N5.out.alloc B5.out.size (.cells #[.int .i64 (s3 x.1.1 x.2.1), .int .i64 (s3 x.1.2 x.2.2)] 3))
                      have M6 := hide (M5.out.trans (KeepsOthers.alloc W5 (.cells #[.int .i64 (s3 x.1.1 x.2.1), .int .i64 (s3 x.1.2 x.2.2)] 3)))
                      generalize W5.alloc (.cells #[.int .i64 (s3 x.1.1 x.2.1), .int .i64 (s3 x.1.2 x.2.2)] 3) = W6 at b6 B6 N6 M6 ⊢
                      have q6 := b6.cell
                      have f6 := b6.frozen
                      replace b6 := hide b6
                      clear x0 x1 x2 x3 hW5 B5 N5 M5 hb5
                      rcases Decidable.em (or2 (s3 x.1.1 x.2.1) (s3 x.1.2 x.2.2) = 0) with hq | hq
                      · gi_wp2
                        exact ⟨M6.out.from _, N6.out, ⟨fun y hy => by
                          rcases List.mem_append.1 hy with h | h
                          · exact hz.out y h
                          · rw [List.mem_singleton.1 h]; exact hq, b6.out⟩, B6.out⟩
                      · gi_wp2
                        exact ⟨(M6.out.trans (KeepsOthers.setCell _ _ _)).from _, rfl, ⟨pre, x, rfl, hz.out, hq, b6.out.set _⟩, (BB.trans (B6.out.mono (Nat.le_of_lt zz))).setCell (Nat.le_refl _) _⟩
                    exact AllReadyIn.nil
                  exact AllReadyIn.nil
                exact AllReadyIn.nil
              exact AllReadyIn.nil
            exact AllReadyIn.nil
          exact AllReadyIn.nil
        exact AllReadyIn.nil
      exact AllReadyIn.nil
    refine AllReadyIn.cons (o := { dst := some 21, op := Op.load 9 (Operand.tmp 20), type := 9, pos := "label.go:39", after := #[{ on := 7, ground := Ground.data }], guard := none }) rfl (fun K0 hK0 => ?_) ?_
    · go_simp
      refine hK0 _ _ ?_
      clear hK0 K0
      (try simp only [Act.put, List.setIfInBounds_toArray, List.set_cons_zero, List.set_cons_succ])
      refine wpAnyIn_ready (rs := [1, 3, 6]) (by kernel_rfl) (by simp) ?_
      refine AllReadyIn.cons (o := { dst := some 14, op := Op.load 9 (Operand.tmp 13), type := 9, pos := "label.go:39", after := #[{ on := 0, ground := Ground.data }], guard := none }) rfl (fun K0 hK0 => ?_) ?_
      · go_simp
        refine hK0 _ _ ?_
        clear hK0 K0
        (try simp only [Act.put, List.setIfInBounds_toArray, List.set_cons_zero, List.set_cons_succ])
        refine wpAnyIn_ready (rs := [3, 6]) (by kernel_rfl) (by simp) ?_
        refine AllReadyIn.cons (o := { dst := some 16, op := Op.load 9 (Operand.tmp 15), type := 9, pos := "label.go:39", after := #[{ on := 2, ground := Ground.data }], guard := none }) rfl (fun K0 hK0 => ?_) ?_
        · go_simp
          refine hK0 _ _ ?_
          clear hK0 K0
          (try simp only [Act.put, List.setIfInBounds_toArray, List.set_cons_zero, List.set_cons_succ])
          refine wpAnyIn_ready (rs := [4, 6]) (by kernel_rfl) (by simp) ?_
          refine AllReadyIn.cons (o := { dst := some 17, op := Op.call { callee := Callee.value (Operand.func 21), args := #[Operand.tmp 14, Operand.tmp 16], argTypes := #[9, 9] }, type := 3, pos := "label.go:39", after := #[{ on := 1, ground := Ground.data }, { on := 3, ground := Ground.data }], guard := none }) rfl (fun K0 hK0 => ?_) ?_
          · go_simp
            refine ⟨trivial, fun _ => by omega, (callsIn_wide.2 (ahead_any _ _ _)).mono ?_⟩
            rintro e W6 ⟨rfl, hW6⟩
            replace hW6 := hW6.symm
            subst hW6
            refine hK0 _ _ ?_
            clear hK0 K0
            (try simp only [Act.put, List.setIfInBounds_toArray, List.set_cons_zero, List.set_cons_succ])
            refine wpAnyIn_ready (rs := [6]) (by kernel_rfl) (by simp) ?_
            refine AllReadyIn.cons (o := { dst := some 19, op := Op.load 9 (Operand.tmp 18), type := 9, pos := "label.go:39", after := #[{ on := 5, ground := Ground.data }], guard := none }) rfl (fun K0 hK0 => ?_) ?_
            · go_simp
              refine hK0 _ _ ?_
              clear hK0 K0
              (try simp only [Act.put, List.setIfInBounds_toArray, List.set_cons_zero, List.set_cons_succ])
              refine wpAnyIn_ready (rs := [9]) (by kernel_rfl) (by simp) ?_
              refine AllReadyIn.cons (o := { dst := some 22, op := Op.call { callee := Callee.value (Operand.func 21), args := #[Operand.tmp 19, Operand.tmp 21], argTypes := #[9, 9] }, type := 3, pos := "label.go:39", after := #[{ on := 6, ground := Ground.data }, { on := 8, ground := Ground.data }, { on := 4, ground := Ground.chain }], guard := none }) rfl (fun K0 hK0 => ?_) ?_
              · go_simp
                refine ⟨trivial, fun _ => by omega, (callsIn_wide.2 (ahead_any _ _ _)).mono ?_⟩
                rintro e W6 ⟨rfl, hW6⟩
                replace hW6 := hW6.symm
                subst hW6
                refine hK0 _ _ ?_
                clear hK0 K0
                (try simp only [Act.put, List.setIfInBounds_toArray, List.set_cons_zero, List.set_cons_succ])
                refine wpAnyIn_ready (rs := [10]) (by kernel_rfl) (by simp) ?_
                refine AllReadyIn.cons (o := { dst := some 23, op := Op.buildSlice 52 2 #[(0, Operand.tmp 17), (1, Operand.tmp 22)], type := 52, pos := "label.go:39", after := #[{ on := 4, ground := Ground.data }, { on := 9, ground := Ground.data }], guard := none }) rfl (fun K0 hK0 => ?_) ?_
                · go_simp
                  refine hK0 _ _ ?_
                  clear hK0 K0
                  (try simp only [Act.put, List.setIfInBounds_toArray, List.set_cons_zero, List.set_cons_succ])
                  refine wpAnyIn_ready (rs := [11]) (by kernel_rfl) (by simp) ?_
                  refine AllReadyIn.cons (o := { dst := some 24, op := Op.call { callee := Callee.value (Operand.func 20), args := #[Operand.tmp 23], argTypes := #[52] }, type := 3, pos := "label.go:39", after := #[{ on := 10, ground := Ground.data }, { on := 9, ground := Ground.chain }], guard := none }) rfl (fun K0 hK0 => ?_) ?_
                  · go_simp
                    refine ⟨trivial, fun _ => by omega, (callsIn_wide.2 (or_any (s3 x.1.1 x.2.1) (s3 x.1.2 x.2.2) W5.heap.size _ (cells2 W5 _ _ 3).1 (cells2 W5 _ _ 3).2)).mono ?_⟩
                    rintro e W6 ⟨rfl, hW6⟩
                    replace hW6 := hW6.symm
                    subst hW6
                    refine hK0 _ _ ?_
                    clear hK0 K0
                    (try simp only [Act.put, List.setIfInBounds_toArray, List.set_cons_zero, List.set_cons_succ])
                    refine wpAnyIn_ready (rs := [12]) (by kernel_rfl) (by simp) ?_
                    refine AllReadyIn.cons (o := { dst := some 7, op := Op.assign (Operand.tmp 24), type := 3, pos := "label.go:39", after := #[{ on := 11, ground := Ground.data }, { on := 11, ground := Ground.chain }, { on := 0, ground := Ground.phase }, { on := 1, ground := Ground.phase }, { on := 2, ground := Ground.phase }, { on := 3, ground := Ground.phase }, { on := 4, ground := Ground.phase }, { on := 5, ground := Ground.phase }, { on := 6, ground := Ground.phase }, { on := 7, ground := Ground.phase }, { on := 8, ground := Ground.phase }, { on := 9, ground := Ground.phase }, { on := 10, ground := Ground.phase }, { on := 11, ground := Ground.phase }], guard := none }) rfl (fun K0 hK0 => ?_) ?_
                    · go_simp
                      refine hK0 _ _ ?_
                      clear hK0 K0
                      (try simp only [Act.put, List.setIfInBounds_toArray, List.set_cons_zero, List.set_cons_succ])
                      refine wpAnyIn_done (by kernel_rfl) ?_ _
                      have b6 := hb5.out.alloc (.cells #[.int .i64 (s3 x.1.1 x.2.1), .int .i64 (s3 x.1.2 x.2.2)] 3)
                      have B6 := hide (B5.out.alloc B5.out.size (.cells #[.int .i64 (s3 x.1.1 x.2.1), .int .i64 (s3 x.1.2 x.2.2)] 3))
                      have N6 := hide (N5.out.alloc B5.out.size (.cells #[.int .i64 (s3 x.1.1 x.2.1), .int .i64 (s3 x.1.2 x.2.2)] 3))
                      have M6 := hide (M5.out.trans (KeepsOthers.alloc W5 (.cells #[.int .i64 (s3 x.1.1 x.2.1), .int .i64 (s3 x.1.2 x.2.2)] 3)))
                      generalize W5.alloc (.cells #[.int .i64 (s3 x.1.1 x.2.1), .int .i64 (s3 x.1.2 x.2.2)] 3) = W6 at b6 B6 N6 M6 ⊢
                      have q6 := b6.cell
                      have f6 := b6.frozen
                      replace b6 := hide b6
                      clear x0 x1 x2 x3 hW5 B5 N5 M5 hb5
                      rcases Decidable.em (or2 (s3 x.1.1 x.2.1) (s3 x.1.2 x.2.2) = 0) with hq | hq
                      · gi_wp2
                        exact ⟨M6.out.from _, N6.out, ⟨fun y hy => by
                          rcases List.mem_append.1 hy with h | h
                          · exact hz.out y h
                          · rw [List.mem_singleton.1 h]; exact hq, b6.out⟩, B6.out⟩
                      · gi_wp2
                        exact ⟨(M6.out.trans (KeepsOthers.setCell _ _ _)).from _, rfl, ⟨pre, x, rfl, hz.out, hq, b6.out.set _⟩, (BB.trans (B6.out.mono (Nat.le_of_lt zz))).setCell (Nat.le_refl _) _⟩
                    exact AllReadyIn.nil
                  exact AllReadyIn.nil
                exact AllReadyIn.nil
              exact AllReadyIn.nil
            exact AllReadyIn.nil
          refine AllReadyIn.cons (o := { dst := some 19, op := Op.load 9 (Operand.tmp 18), type := 9, pos := "label.go:39", after := #[{ on := 5, ground := Ground.data }], guard := none }) rfl (fun K0 hK0 => ?_) ?_
          · go_simp
            refine hK0 _ _ ?_
            clear hK0 K0
            (try simp only [Act.put, List.setIfInBounds_toArray, List.set_cons_zero, List.set_cons_succ])
            refine wpAnyIn_ready (rs := [4]) (by kernel_rfl) (by simp) ?_
            refine AllReadyIn.cons (o := { dst := some 17, op := Op.call { callee := Callee.value (Operand.func 21), args := #[Operand.tmp 14, Operand.tmp 16], argTypes := #[9, 9] }, type := 3, pos := "label.go:39", after := #[{ on := 1, ground := Ground.data }, { on := 3, ground := Ground.data }], guard := none }) rfl (fun K0 hK0 => ?_) ?_
            · go_simp
              refine ⟨trivial, fun _ => by omega, (callsIn_wide.2 (ahead_any _ _ _)).mono ?_⟩
              rintro e W6 ⟨rfl, hW6⟩
              replace hW6 := hW6.symm
              subst hW6
              refine hK0 _ _ ?_
              clear hK0 K0
              (try simp only [Act.put, List.setIfInBounds_toArray, List.set_cons_zero, List.set_cons_succ])
              refine wpAnyIn_ready (rs := [9]) (by kernel_rfl) (by simp) ?_
              refine AllReadyIn.cons (o := { dst := some 22, op := Op.call { callee := Callee.value (Operand.func 21), args := #[Operand.tmp 19, Operand.tmp 21], argTypes := #[9, 9] }, type := 3, pos := "label.go:39", after := #[{ on := 6, ground := Ground.data }, { on := 8, ground := Ground.data }, { on := 4, ground := Ground.chain }], guard := none }) rfl (fun K0 hK0 => ?_) ?_
              · go_simp
                refine ⟨trivial, fun _ => by omega, (callsIn_wide.2 (ahead_any _ _ _)).mono ?_⟩
                rintro e W6 ⟨rfl, hW6⟩
                replace hW6 := hW6.symm
                subst hW6
                refine hK0 _ _ ?_
                clear hK0 K0
                (try simp only [Act.put, List.setIfInBounds_toArray, List.set_cons_zero, List.set_cons_succ])
                refine wpAnyIn_ready (rs := [10]) (by kernel_rfl) (by simp) ?_
                refine AllReadyIn.cons (o := { dst := some 23, op := Op.buildSlice 52 2 #[(0, Operand.tmp 17), (1, Operand.tmp 22)], type := 52, pos := "label.go:39", after := #[{ on := 4, ground := Ground.data }, { on := 9, ground := Ground.data }], guard := none }) rfl (fun K0 hK0 => ?_) ?_
                · go_simp
                  refine hK0 _ _ ?_
                  clear hK0 K0
                  (try simp only [Act.put, List.setIfInBounds_toArray, List.set_cons_zero, List.set_cons_succ])
                  refine wpAnyIn_ready (rs := [11]) (by kernel_rfl) (by simp) ?_
                  refine AllReadyIn.cons (o := { dst := some 24, op := Op.call { callee := Callee.value (Operand.func 20), args := #[Operand.tmp 23], argTypes := #[52] }, type := 3, pos := "label.go:39", after := #[{ on := 10, ground := Ground.data }, { on := 9, ground := Ground.chain }], guard := none }) rfl (fun K0 hK0 => ?_) ?_
                  · go_simp
                    refine ⟨trivial, fun _ => by omega, (callsIn_wide.2 (or_any (s3 x.1.1 x.2.1) (s3 x.1.2 x.2.2) W5.heap.size _ (cells2 W5 _ _ 3).1 (cells2 W5 _ _ 3).2)).mono ?_⟩
                    rintro e W6 ⟨rfl, hW6⟩
                    replace hW6 := hW6.symm
                    subst hW6
                    refine hK0 _ _ ?_
                    clear hK0 K0
                    (try simp only [Act.put, List.setIfInBounds_toArray, List.set_cons_zero, List.set_cons_succ])
                    refine wpAnyIn_ready (rs := [12]) (by kernel_rfl) (by simp) ?_
                    refine AllReadyIn.cons (o := { dst := some 7, op := Op.assign (Operand.tmp 24), type := 3, pos := "label.go:39", after := #[{ on := 11, ground := Ground.data }, { on := 11, ground := Ground.chain }, { on := 0, ground := Ground.phase }, { on := 1, ground := Ground.phase }, { on := 2, ground := Ground.phase }, { on := 3, ground := Ground.phase }, { on := 4, ground := Ground.phase }, { on := 5, ground := Ground.phase }, { on := 6, ground := Ground.phase }, { on := 7, ground := Ground.phase }, { on := 8, ground := Ground.phase }, { on := 9, ground := Ground.phase }, { on := 10, ground := Ground.phase }, { on := 11, ground := Ground.phase }], guard := none }) rfl (fun K0 hK0 => ?_) ?_
                    · go_simp
                      refine hK0 _ _ ?_
                      clear hK0 K0
                      (try simp only [Act.put, List.setIfInBounds_toArray, List.set_cons_zero, List.set_cons_succ])
                      refine wpAnyIn_done (by kernel_rfl) ?_ _
                      have b6 := hb5.out.alloc (.cells #[.int .i64 (s3 x.1.1 x.2.1), .int .i64 (s3 x.1.2 x.2.2)] 3)
                      have B6 := hide (B5.out.alloc B5.out.size (.cells #[.int .i64 (s3 x.1.1 x.2.1), .int .i64 (s3 x.1.2 x.2.2)] 3))
                      have N6 := hide (N5.out.alloc B5.out.size (.cells #[.int .i64 (s3 x.1.1 x.2.1), .int .i64 (s3 x.1.2 x.2.2)] 3))
                      have M6 := hide (M5.out.trans (KeepsOthers.alloc W5 (.cells #[.int .i64 (s3 x.1.1 x.2.1), .int .i64 (s3 x.1.2 x.2.2)] 3)))
                      generalize W5.alloc (.cells #[.int .i64 (s3 x.1.1 x.2.1), .int .i64 (s3 x.1.2 x.2.2)] 3) = W6 at b6 B6 N6 M6 ⊢
                      have q6 := b6.cell
                      have f6 := b6.frozen
                      replace b6 := hide b6
                      clear x0 x1 x2 x3 hW5 B5 N5 M5 hb5
                      rcases Decidable.em (or2 (s3 x.1.1 x.2.1) (s3 x.1.2 x.2.2) = 0) with hq | hq
                      · gi_wp2
                        exact ⟨M6.out.from _, N6.out, ⟨fun y hy => by
                          rcases List.mem_append.1 hy with h | h
                          · exact hz.out y h
                          · rw [List.mem_singleton.1 h]; exact hq, b6.out⟩, B6.out⟩
                      · gi_wp2
                        exact ⟨(M6.out.trans (KeepsOthers.setCell _ _ _)).from _, rfl, ⟨pre, x, rfl, hz.out, hq, b6.out.set _⟩, (BB.trans (B6.out.mono (Nat.le_of_lt zz))).setCell (Nat.le_refl _) _⟩
                    exact AllReadyIn.nil
                  exact AllReadyIn.nil
                exact AllReadyIn.nil
              exact AllReadyIn.nil
            exact AllReadyIn.nil
          exact AllReadyIn.nil
        refine AllReadyIn.cons (o := { dst := some 19, op := Op.load 9 (Operand.tmp 18), type := 9, pos := "label.go:39", after := #[{ on := 5, ground := Ground.data }], guard := none }) rfl (fun K0 hK0 => ?_) ?_
        · go_simp
          refine hK0 _ _ ?_
          clear hK0 K0
          (try simp only [Act.put, List.setIfInBounds_toArray, List.set_cons_zero, List.set_cons_succ])
          refine wpAnyIn_ready (rs := [3]) (by kernel_rfl) (by simp) ?_
          refine AllReadyIn.cons (o := { dst := some 16, op := Op.load 9 (Operand.tmp 15), type := 9, pos := "label.go:39", after := #[{ on := 2, ground := Ground.data }], guard := none }) rfl (fun K0 hK0 => ?_) ?_
          · go_simp
            refine hK0 _ _ ?_
            clear hK0 K0
            (try simp only [Act.put, List.setIfInBounds_toArray, List.set_cons_zero, List.set_cons_succ])
            refine wpAnyIn_ready (rs := [4]) (by kernel_rfl) (by simp) ?_
            refine AllReadyIn.cons (o := { dst := some 17, op := Op.call { callee := Callee.value (Operand.func 21), args := #[Operand.tmp 14, Operand.tmp 16], argTypes := #[9, 9] }, type := 3, pos := "label.go:39", after := #[{ on := 1, ground := Ground.data }, { on := 3, ground := Ground.data }], guard := none }) rfl (fun K0 hK0 => ?_) ?_
            · go_simp
              refine ⟨trivial, fun _ => by omega, (callsIn_wide.2 (ahead_any _ _ _)).mono ?_⟩
              rintro e W6 ⟨rfl, hW6⟩
              replace hW6 := hW6.symm
              subst hW6
              refine hK0 _ _ ?_
              clear hK0 K0
              (try simp only [Act.put, List.setIfInBounds_toArray, List.set_cons_zero, List.set_cons_succ])
              refine wpAnyIn_ready (rs := [9]) (by kernel_rfl) (by simp) ?_
              refine AllReadyIn.cons (o := { dst := some 22, op := Op.call { callee := Callee.value (Operand.func 21), args := #[Operand.tmp 19, Operand.tmp 21], argTypes := #[9, 9] }, type := 3, pos := "label.go:39", after := #[{ on := 6, ground := Ground.data }, { on := 8, ground := Ground.data }, { on := 4, ground := Ground.chain }], guard := none }) rfl (fun K0 hK0 => ?_) ?_
              · go_simp
                refine ⟨trivial, fun _ => by omega, (callsIn_wide.2 (ahead_any _ _ _)).mono ?_⟩
                rintro e W6 ⟨rfl, hW6⟩
                replace hW6 := hW6.symm
                subst hW6
                refine hK0 _ _ ?_
                clear hK0 K0
                (try simp only [Act.put, List.setIfInBounds_toArray, List.set_cons_zero, List.set_cons_succ])
                refine wpAnyIn_ready (rs := [10]) (by kernel_rfl) (by simp) ?_
                refine AllReadyIn.cons (o := { dst := some 23, op := Op.buildSlice 52 2 #[(0, Operand.tmp 17), (1, Operand.tmp 22)], type := 52, pos := "label.go:39", after := #[{ on := 4, ground := Ground.data }, { on := 9, ground := Ground.data }], guard := none }) rfl (fun K0 hK0 => ?_) ?_
                · go_simp
                  refine hK0 _ _ ?_
                  clear hK0 K0
                  (try simp only [Act.put, List.setIfInBounds_toArray, List.set_cons_zero, List.set_cons_succ])
                  refine wpAnyIn_ready (rs := [11]) (by kernel_rfl) (by simp) ?_
                  refine AllReadyIn.cons (o := { dst := some 24, op := Op.call { callee := Callee.value (Operand.func 20), args := #[Operand.tmp 23], argTypes := #[52] }, type := 3, pos := "label.go:39", after := #[{ on := 10, ground := Ground.data }, { on := 9, ground := Ground.chain }], guard := none }) rfl (fun K0 hK0 => ?_) ?_
                  · go_simp
                    refine ⟨trivial, fun _ => by omega, (callsIn_wide.2 (or_any (s3 x.1.1 x.2.1) (s3 x.1.2 x.2.2) W5.heap.size _ (cells2 W5 _ _ 3).1 (cells2 W5 _ _ 3).2)).mono ?_⟩
                    rintro e W6 ⟨rfl, hW6⟩
                    replace hW6 := hW6.symm
                    subst hW6
                    refine hK0 _ _ ?_
                    clear hK0 K0
                    (try simp only [Act.put, List.setIfInBounds_toArray, List.set_cons_zero, List.set_cons_succ])
                    refine wpAnyIn_ready (rs := [12]) (by kernel_rfl) (by simp) ?_
                    refine AllReadyIn.cons (o := { dst := some 7, op := Op.assign (Operand.tmp 24), type := 3, pos := "label.go:39", after := #[{ on := 11, ground := Ground.data }, { on := 11, ground := Ground.chain }, { on := 0, ground := Ground.phase }, { on := 1, ground := Ground.phase }, { on := 2, ground := Ground.phase }, { on := 3, ground := Ground.phase }, { on := 4, ground := Ground.phase }, { on := 5, ground := Ground.phase }, { on := 6, ground := Ground.phase }, { on := 7, ground := Ground.phase }, { on := 8, ground := Ground.phase }, { on := 9, ground := Ground.phase }, { on := 10, ground := Ground.phase }, { on := 11, ground := Ground.phase }], guard := none }) rfl (fun K0 hK0 => ?_) ?_
                    · go_simp
                      refine hK0 _ _ ?_
                      clear hK0 K0
                      (try simp only [Act.put, List.setIfInBounds_toArray, List.set_cons_zero, List.set_cons_succ])
                      refine wpAnyIn_done (by kernel_rfl) ?_ _
                      have b6 := hb5.out.alloc (.cells #[.int .i64 (s3 x.1.1 x.2.1), .int .i64 (s3 x.1.2 x.2.2)] 3)
                      have B6 := hide (B5.out.alloc B5.out.size (.cells #[.int .i64 (s3 x.1.1 x.2.1), .int .i64 (s3 x.1.2 x.2.2)] 3))
                      have N6 := hide (N5.out.alloc B5.out.size (.cells #[.int .i64 (s3 x.1.1 x.2.1), .int .i64 (s3 x.1.2 x.2.2)] 3))
                      have M6 := hide (M5.out.trans (KeepsOthers.alloc W5 (.cells #[.int .i64 (s3 x.1.1 x.2.1), .int .i64 (s3 x.1.2 x.2.2)] 3)))
                      generalize W5.alloc (.cells #[.int .i64 (s3 x.1.1 x.2.1), .int .i64 (s3 x.1.2 x.2.2)] 3) = W6 at b6 B6 N6 M6 ⊢
                      have q6 := b6.cell
                      have f6 := b6.frozen
                      replace b6 := hide b6
                      clear x0 x1 x2 x3 hW5 B5 N5 M5 hb5
                      rcases Decidable.em (or2 (s3 x.1.1 x.2.1) (s3 x.1.2 x.2.2) = 0) with hq | hq
                      · gi_wp2
                        exact ⟨M6.out.from _, N6.out, ⟨fun y hy => by
                          rcases List.mem_append.1 hy with h | h
                          · exact hz.out y h
                          · rw [List.mem_singleton.1 h]; exact hq, b6.out⟩, B6.out⟩
                      · gi_wp2
                        exact ⟨(M6.out.trans (KeepsOthers.setCell _ _ _)).from _, rfl, ⟨pre, x, rfl, hz.out, hq, b6.out.set _⟩, (BB.trans (B6.out.mono (Nat.le_of_lt zz))).setCell (Nat.le_refl _) _⟩
                    exact AllReadyIn.nil
                  exact AllReadyIn.nil
                exact AllReadyIn.nil
              exact AllReadyIn.nil
            exact AllReadyIn.nil
          exact AllReadyIn.nil
        exact AllReadyIn.nil
      refine AllReadyIn.cons (o := { dst := some 16, op := Op.load 9 (Operand.tmp 15), type := 9, pos := "label.go:39", after := #[{ on := 2, ground := Ground.data }], guard := none }) rfl (fun K0 hK0 => ?_) ?_
      · go_simp
        refine hK0 _ _ ?_
        clear hK0 K0
        (try simp only [Act.put, List.setIfInBounds_toArray, List.set_cons_zero, List.set_cons_succ])
        refine wpAnyIn_ready (rs := [1, 6]) (by kernel_rfl) (by simp) ?_
        refine AllReadyIn.cons (o := { dst := some 14, op := Op.load 9 (Operand.tmp 13), type := 9, pos := "label.go:39", after := #[{ on := 0, ground := Ground.data }], guard := none }) rfl (fun K0 hK0 => ?_) ?_
        · go_simp
          refine hK0 _ _ ?_
          clear hK0 K0
          (try simp only [Act.put, List.setIfInBounds_toArray, List.set_cons_zero, List.set_cons_succ])
          refine wpAnyIn_ready (rs := [4, 6]) (by kernel_rfl) (by simp) ?_
          refine AllReadyIn.cons (o := { dst := some 17, op := Op.call { callee := Callee.value (Operand.func 21), args := #[Operand.tmp 14, Operand.tmp 16], argTypes := #[9, 9] }, type := 3, pos := "label.go:39", after := #[{ on := 1, ground := Ground.data }, { on := 3, ground := Ground.data }], guard := none }) rfl (fun K0 hK0 => ?_) ?_
          · go_simp
            refine ⟨trivial, fun _ => by omega, (callsIn_wide.2 (ahead_any _ _ _)).mono ?_⟩
            rintro e W6 ⟨rfl, hW6⟩
            replace hW6 := hW6.symm
            subst hW6
            refine hK0 _ _ ?_
            clear hK0 K0
            (try simp only [Act.put, List.setIfInBounds_toArray, List.set_cons_zero, List.set_cons_succ])
            refine wpAnyIn_ready (rs := [6]) (by kernel_rfl) (by simp) ?_
            refine AllReadyIn.cons (o := { dst := some 19, op := Op.load 9 (Operand.tmp 18), type := 9, pos := "label.go:39", after := #[{ on := 5, ground := Ground.data }], guard := none }) rfl (fun K0 hK0 => ?_) ?_
            · go_simp
              refine hK0 _ _ ?_
              clear hK0 K0
              (try simp only [Act.put, List.setIfInBounds_toArray, List.set_cons_zero, List.set_cons_succ])
              refine wpAnyIn_ready (rs := [9]) (by kernel_rfl) (by simp) ?_
              refine AllReadyIn.cons (o := { dst := some 22, op := Op.call { callee := Callee.value (Operand.func 21), args := #[Operand.tmp 19, Operand.tmp 21], argTypes := #[9, 9] }, type := 3, pos := "label.go:39", after := #[{ on := 6, ground := Ground.data }, { on := 8, ground := Ground.data }, { on := 4, ground := Ground.chain }], guard := none }) rfl (fun K0 hK0 => ?_) ?_
              · go_simp
                refine ⟨trivial, fun _ => by omega, (callsIn_wide.2 (ahead_any _ _ _)).mono ?_⟩
                rintro e W6 ⟨rfl, hW6⟩
                replace hW6 := hW6.symm
                subst hW6
                refine hK0 _ _ ?_
                clear hK0 K0
                (try simp only [Act.put, List.setIfInBounds_toArray, List.set_cons_zero, List.set_cons_succ])
                refine wpAnyIn_ready (rs := [10]) (by kernel_rfl) (by simp) ?_
                refine AllReadyIn.cons (o := { dst := some 23, op := Op.buildSlice 52 2 #[(0, Operand.tmp 17), (1, Operand.tmp 22)], type := 52, pos := "label.go:39", after := #[{ on := 4, ground := Ground.data }, { on := 9, ground := Ground.data }], guard := none }) rfl (fun K0 hK0 => ?_) ?_
                · go_simp
                  refine hK0 _ _ ?_
                  clear hK0 K0
                  (try simp only [Act.put, List.setIfInBounds_toArray, List.set_cons_zero, List.set_cons_succ])
                  refine wpAnyIn_ready (rs := [11]) (by kernel_rfl) (by simp) ?_
                  refine AllReadyIn.cons (o := { dst := some 24, op := Op.call { callee := Callee.value (Operand.func 20), args := #[Operand.tmp 23], argTypes := #[52] }, type := 3, pos := "label.go:39", after := #[{ on := 10, ground := Ground.data }, { on := 9, ground := Ground.chain }], guard := none }) rfl (fun K0 hK0 => ?_) ?_
                  · go_simp
                    refine ⟨trivial, fun _ => by omega, (callsIn_wide.2 (or_any (s3 x.1.1 x.2.1) (s3 x.1.2 x.2.2) W5.heap.size _ (cells2 W5 _ _ 3).1 (cells2 W5 _ _ 3).2)).mono ?_⟩
                    rintro e W6 ⟨rfl, hW6⟩
                    replace hW6 := hW6.symm
                    subst hW6
                    refine hK0 _ _ ?_
                    clear hK0 K0
                    (try simp only [Act.put, List.setIfInBounds_toArray, List.set_cons_zero, List.set_cons_succ])
                    refine wpAnyIn_ready (rs := [12]) (by kernel_rfl) (by simp) ?_
                    refine AllReadyIn.cons (o := { dst := some 7, op := Op.assign (Operand.tmp 24), type := 3, pos := "label.go:39", after := #[{ on := 11, ground := Ground.data }, { on := 11, ground := Ground.chain }, { on := 0, ground := Ground.phase }, { on := 1, ground := Ground.phase }, { on := 2, ground := Ground.phase }, { on := 3, ground := Ground.phase }, { on := 4, ground := Ground.phase }, { on := 5, ground := Ground.phase }, { on := 6, ground := Ground.phase }, { on := 7, ground := Ground.phase }, { on := 8, ground := Ground.phase }, { on := 9, ground := Ground.phase }, { on := 10, ground := Ground.phase }, { on := 11, ground := Ground.phase }], guard := none }) rfl (fun K0 hK0 => ?_) ?_
                    · go_simp
                      refine hK0 _ _ ?_
                      clear hK0 K0
                      (try simp only [Act.put, List.setIfInBounds_toArray, List.set_cons_zero, List.set_cons_succ])
                      refine wpAnyIn_done (by kernel_rfl) ?_ _
                      have b6 := hb5.out.alloc (.cells #[.int .i64 (s3 x.1.1 x.2.1), .int .i64 (s3 x.1.2 x.2.2)] 3)
                      have B6 := hide (B5.out.alloc B5.out.size (.cells #[.int .i64 (s3 x.1.1 x.2.1), .int .i64 (s3 x.1.2 x.2.2)] 3))
                      have N6 := hide (N5.out.alloc B5.out.size (.cells #[.int .i64 (s3 x.1.1 x.2.1), .int .i64 (s3 x.1.2 x.2.2)] 3))
                      have M6 := hide (M5.out.trans (KeepsOthers.alloc W5 (.cells #[.int .i64 (s3 x.1.1 x.2.1), .int .i64 (s3 x.1.2 x.2.2)] 3)))
                      generalize W5.alloc (.cells #[.int .i64 (s3 x.1.1 x.2.1), .int .i64 (s3 x.1.2 x.2.2)] 3) = W6 at b6 B6 N6 M6 ⊢
                      have q6 := b6.cell
                      have f6 := b6.frozen
                      replace b6 := hide b6
                      clear x0 x1 x2 x3 hW5 B5 N5 M5 hb5
                      rcases Decidable.em (or2 (s3 x.1.1 x.2.1) (s3 x.1.2 x.2.2) = 0) with hq | hq
                      · gi_wp2
                        exact ⟨M6.out.from _, N6.out, ⟨fun y hy => by
                          rcases List.mem_append.1 hy with h | h
                          · exact hz.out y h
                          · rw [List.mem_singleton.1 h]; exact hq, b6.out⟩, B6.out⟩
                      · gi_wp2
                        exact ⟨(M6.out.trans (KeepsOthers.setCell _ _ _)).from _, rfl, ⟨pre, x, rfl, hz.out, hq, b6.out.set _⟩, (BB.trans (B6.out.mono (Nat.le_of_lt zz))).setCell (Nat.le_refl _) _⟩
                    exact AllReadyIn.nil
                  exact AllReadyIn.nil
                exact AllReadyIn.nil
              exact AllReadyIn.nil
            exact AllReadyIn.nil
          refine AllReadyIn.cons (o := { dst := some 19, op := Op.load 9 (Operand.tmp 18), type := 9, pos := "label.go:39", after := #[{ on := 5, ground := Ground.data }], guard := none }) rfl (fun K0 hK0 => ?_) ?_
          · go_simp
            refine hK0 _ _ ?_
            clear hK0 K0
            (try simp only [Act.put, List.setIfInBounds_toArray, List.set_cons_zero, List.set_cons_succ])
            refine wpAnyIn_ready (rs := [4]) (by kernel_rfl) (by simp) ?_
            refine AllReadyIn.cons (o := { dst := some 17, op := Op.call { callee := Callee.value (Operand.func 21), args := #[Operand.tmp 14, Operand.tmp 16], argTypes := #[9, 9] }, type := 3, pos := "label.go:39", after := #[{ on := 1, ground := Ground.data }, { on := 3, ground := Ground.data }], guard := none }) rfl (fun K0 hK0 => ?_) ?_
            · go_simp
              refine ⟨trivial, fun _ => by omega, (callsIn_wide.2 (ahead_any _ _ _)).mono ?_⟩
              rintro e W6 ⟨rfl, hW6⟩
              replace hW6 := hW6.symm
              subst hW6
              refine hK0 _ _ ?_
              clear hK0 K0
              (try simp only [Act.put, List.setIfInBounds_toArray, List.set_cons_zero, List.set_cons_succ])
              refine wpAnyIn_ready (rs := [9]) (by kernel_rfl) (by simp) ?_
              refine AllReadyIn.cons (o := { dst := some 22, op := Op.call { callee := Callee.value (Operand.func 21), args := #[Operand.tmp 19, Operand.tmp 21], argTypes := #[9, 9] }, type := 3, pos := "label.go:39", after := #[{ on := 6, ground := Ground.data }, { on := 8, ground := Ground.data }, { on := 4, ground := Ground.chain }], guard := none }) rfl (fun K0 hK0 => ?_) ?_
              · go_simp
                refine ⟨trivial, fun _ => by omega, (callsIn_wide.2 (ahead_any _ _ _)).mono ?_⟩
                rintro e W6 ⟨rfl, hW6⟩
                replace hW6 := hW6.symm
                subst hW6
                refine hK0 _ _ ?_
                clear hK0 K0
                (try simp only [Act.put, List.setIfInBounds_toArray, List.set_cons_zero, List.set_cons_succ])
                refine wpAnyIn_ready (rs := [10]) (by kernel_rfl) (by simp) ?_
                refine AllReadyIn.cons (o := { dst := some 23, op := Op.buildSlice 52 2 #[(0, Operand.tmp 17), (1, Operand.tmp 22)], type := 52, pos := "label.go:39", after := #[{ on := 4, ground := Ground.data }, { on := 9, ground := Ground.data }], guard := none }) rfl (fun K0 hK0 => ?_) ?_
                · go_simp
                  refine hK0 _ _ ?_
                  clear hK0 K0
                  (try simp only [Act.put, List.setIfInBounds_toArray, List.set_cons_zero, List.set_cons_succ])
                  refine wpAnyIn_ready (rs := [11]) (by kernel_rfl) (by simp) ?_
                  refine AllReadyIn.cons (o := { dst := some 24, op := Op.call { callee := Callee.value (Operand.func 20), args := #[Operand.tmp 23], argTypes := #[52] }, type := 3, pos := "label.go:39", after := #[{ on := 10, ground := Ground.data }, { on := 9, ground := Ground.chain }], guard := none }) rfl (fun K0 hK0 => ?_) ?_
                  · go_simp
                    refine ⟨trivial, fun _ => by omega, (callsIn_wide.2 (or_any (s3 x.1.1 x.2.1) (s3 x.1.2 x.2.2) W5.heap.size _ (cells2 W5 _ _ 3).1 (cells2 W5 _ _ 3).2)).mono ?_⟩
                    rintro e W6 ⟨rfl, hW6⟩
                    replace hW6 := hW6.symm
                    subst hW6
                    refine hK0 _ _ ?_
                    clear hK0 K0
                    (try simp only [Act.put, List.setIfInBounds_toArray, List.set_cons_zero, List.set_cons_succ])
                    refine wpAnyIn_ready (rs := [12]) (by kernel_rfl) (by simp) ?_
                    refine AllReadyIn.cons (o := { dst := some 7, op := Op.assign (Operand.tmp 24), type := 3, pos := "label.go:39", after := #[{ on := 11, ground := Ground.data }, { on := 11, ground := Ground.chain }, { on := 0, ground := Ground.phase }, { on := 1, ground := Ground.phase }, { on := 2, ground := Ground.phase }, { on := 3, ground := Ground.phase }, { on := 4, ground := Ground.phase }, { on := 5, ground := Ground.phase }, { on := 6, ground := Ground.phase }, { on := 7, ground := Ground.phase }, { on := 8, ground := Ground.phase }, { on := 9, ground := Ground.phase }, { on := 10, ground := Ground.phase }, { on := 11, ground := Ground.phase }], guard := none }) rfl (fun K0 hK0 => ?_) ?_
                    · go_simp
                      refine hK0 _ _ ?_
                      clear hK0 K0
                      (try simp only [Act.put, List.setIfInBounds_toArray, List.set_cons_zero, List.set_cons_succ])
                      refine wpAnyIn_done (by kernel_rfl) ?_ _
                      have b6 := hb5.out.alloc (.cells #[.int .i64 (s3 x.1.1 x.2.1), .int .i64 (s3 x.1.2 x.2.2)] 3)
                      have B6 := hide (B5.out.alloc B5.out.size (.cells #[.int .i64 (s3 x.1.1 x.2.1), .int .i64 (s3 x.1.2 x.2.2)] 3))
                      have N6 := hide (N5.out.alloc B5.out.size (.cells #[.int .i64 (s3 x.1.1 x.2.1), .int .i64 (s3 x.1.2 x.2.2)] 3))
                      have M6 := hide (M5.out.trans (KeepsOthers.alloc W5 (.cells #[.int .i64 (s3 x.1.1 x.2.1), .int .i64 (s3 x.1.2 x.2.2)] 3)))
                      generalize W5.alloc (.cells #[.int .i64 (s3 x.1.1 x.2.1), .int .i64 (s3 x.1.2 x.2.2)] 3) = W6 at b6 B6 N6 M6 ⊢
                      have q6 := b6.cell
                      have f6 := b6.frozen
                      replace b6 := hide b6
                      clear x0 x1 x2 x3 hW5 B5 N5 M5 hb5
                      rcases Decidable.em (or2 (s3 x.1.1 x.2.1) (s3 x.1.2 x.2.2) = 0) with hq | hq
                      · gi_wp2
                        exact ⟨M6.out.from _, N6.out, ⟨fun y hy => by
                          rcases List.mem_append.1 hy with h | h
                          · exact hz.out y h
                          · rw [List.mem_singleton.1 h]; exact hq, b6.out⟩, B6.out⟩
                      · gi_wp2
                        exact ⟨(M6.out.trans (KeepsOthers.setCell _ _ _)).from _, rfl, ⟨pre, x, rfl, hz.out, hq, b6.out.set _⟩, (BB.trans (B6.out.mono (Nat.le_of_lt zz))).setCell (Nat.le_refl _) _⟩
                    exact AllReadyIn.nil
                  exact AllReadyIn.nil
                exact AllReadyIn.nil
              exact AllReadyIn.nil
            exact AllReadyIn.nil
          exact AllReadyIn.nil
        refine AllReadyIn.cons (o := { dst := some 19, op := Op.load 9 (Operand.tmp 18), type := 9, pos := "label.go:39", after := #[{ on := 5, ground := Ground.data }], guard := none }) rfl (fun K0 hK0 => ?_) ?_
        · go_simp
          refine hK0 _ _ ?_
          clear hK0 K0
          (try simp only [Act.put, List.setIfInBounds_toArray, List.set_cons_zero, List.set_cons_succ])
          refine wpAnyIn_ready (rs := [1]) (by kernel_rfl) (by simp) ?_
          refine AllReadyIn.cons (o := { dst := some 14, op := Op.load 9 (Operand.tmp 13), type := 9, pos := "label.go:39", after := #[{ on := 0, ground := Ground.data }], guard := none }) rfl (fun K0 hK0 => ?_) ?_
          · go_simp
            refine hK0 _ _ ?_
            clear hK0 K0
            (try simp only [Act.put, List.setIfInBounds_toArray, List.set_cons_zero, List.set_cons_succ])
            refine wpAnyIn_ready (rs := [4]) (by kernel_rfl) (by simp) ?_
            refine AllReadyIn.cons (o := { dst := some 17, op := Op.call { callee := Callee.value (Operand.func 21), args := #[Operand.tmp 14, Operand.tmp 16], argTypes := #[9, 9] }, type := 3, pos := "label.go:39", after := #[{ on := 1, ground := Ground.data }, { on := 3, ground := Ground.data }], guard := none }) rfl (fun K0 hK0 => ?_) ?_
            · go_simp
              refine ⟨trivial, fun _ => by omega, (callsIn_wide.2 (ahead_any _ _ _)).mono ?_⟩
              rintro e W6 ⟨rfl, hW6⟩
              replace hW6 := hW6.symm
              subst hW6
              refine hK0 _ _ ?_
              clear hK0 K0
              (try simp only [Act.put, List.setIfInBounds_toArray, List.set_cons_zero, List.set_cons_succ])
              refine wpAnyIn_ready (rs := [9]) (by kernel_rfl) (by simp) ?_
              refine AllReadyIn.cons (o := { dst := some 22, op := Op.call { callee := Callee.value (Operand.func 21), args := #[Operand.tmp 19, Operand.tmp 21], argTypes := #[9, 9] }, type := 3, pos := "label.go:39", after := #[{ on := 6, ground := Ground.data }, { on := 8, ground := Ground.data }, { on := 4, ground := Ground.chain }], guard := none }) rfl (fun K0 hK0 => ?_) ?_
              · go_simp
                refine ⟨trivial, fun _ => by omega, (callsIn_wide.2 (ahead_any _ _ _)).mono ?_⟩
                rintro e W6 ⟨rfl, hW6⟩
                replace hW6 := hW6.symm
                subst hW6
                refine hK0 _ _ ?_
                clear hK0 K0
                (try simp only [Act.put, List.setIfInBounds_toArray, List.set_cons_zero, List.set_cons_succ])
                refine wpAnyIn_ready (rs := [10]) (by kernel_rfl) (by simp) ?_
                refine AllReadyIn.cons (o := { dst := some 23, op := Op.buildSlice 52 2 #[(0, Operand.tmp 17), (1, Operand.tmp 22)], type := 52, pos := "label.go:39", after := #[{ on := 4, ground := Ground.data }, { on := 9, ground := Ground.data }], guard := none }) rfl (fun K0 hK0 => ?_) ?_
                · go_simp
                  refine hK0 _ _ ?_
                  clear hK0 K0
                  (try simp only [Act.put, List.setIfInBounds_toArray, List.set_cons_zero, List.set_cons_succ])
                  refine wpAnyIn_ready (rs := [11]) (by kernel_rfl) (by simp) ?_
                  refine AllReadyIn.cons (o := { dst := some 24, op := Op.call { callee := Callee.value (Operand.func 20), args := #[Operand.tmp 23], argTypes := #[52] }, type := 3, pos := "label.go:39", after := #[{ on := 10, ground := Ground.data }, { on := 9, ground := Ground.chain }], guard := none }) rfl (fun K0 hK0 => ?_) ?_
                  · go_simp
                    refine ⟨trivial, fun _ => by omega, (callsIn_wide.2 (or_any (s3 x.1.1 x.2.1) (s3 x.1.2 x.2.2) W5.heap.size _ (cells2 W5 _ _ 3).1 (cells2 W5 _ _ 3).2)).mono ?_⟩
                    rintro e W6 ⟨rfl, hW6⟩
                    replace hW6 := hW6.symm
                    subst hW6
                    refine hK0 _ _ ?_
                    clear hK0 K0
                    (try simp only [Act.put, List.setIfInBounds_toArray, List.set_cons_zero, List.set_cons_succ])
                    refine wpAnyIn_ready (rs := [12]) (by kernel_rfl) (by simp) ?_
                    refine AllReadyIn.cons (o := { dst := some 7, op := Op.assign (Operand.tmp 24), type := 3, pos := "label.go:39", after := #[{ on := 11, ground := Ground.data }, { on := 11, ground := Ground.chain }, { on := 0, ground := Ground.phase }, { on := 1, ground := Ground.phase }, { on := 2, ground := Ground.phase }, { on := 3, ground := Ground.phase }, { on := 4, ground := Ground.phase }, { on := 5, ground := Ground.phase }, { on := 6, ground := Ground.phase }, { on := 7, ground := Ground.phase }, { on := 8, ground := Ground.phase }, { on := 9, ground := Ground.phase }, { on := 10, ground := Ground.phase }, { on := 11, ground := Ground.phase }], guard := none }) rfl (fun K0 hK0 => ?_) ?_
                    · go_simp
                      refine hK0 _ _ ?_
                      clear hK0 K0
                      (try simp only [Act.put, List.setIfInBounds_toArray, List.set_cons_zero, List.set_cons_succ])
                      refine wpAnyIn_done (by kernel_rfl) ?_ _
                      have b6 := hb5.out.alloc (.cells #[.int .i64 (s3 x.1.1 x.2.1), .int .i64 (s3 x.1.2 x.2.2)] 3)
                      have B6 := hide (B5.out.alloc B5.out.size (.cells #[.int .i64 (s3 x.1.1 x.2.1), .int .i64 (s3 x.1.2 x.2.2)] 3))
                      have N6 := hide (N5.out.alloc B5.out.size (.cells #[.int .i64 (s3 x.1.1 x.2.1), .int .i64 (s3 x.1.2 x.2.2)] 3))
                      have M6 := hide (M5.out.trans (KeepsOthers.alloc W5 (.cells #[.int .i64 (s3 x.1.1 x.2.1), .int .i64 (s3 x.1.2 x.2.2)] 3)))
                      generalize W5.alloc (.cells #[.int .i64 (s3 x.1.1 x.2.1), .int .i64 (s3 x.1.2 x.2.2)] 3) = W6 at b6 B6 N6 M6 ⊢
                      have q6 := b6.cell
                      have f6 := b6.frozen
                      replace b6 := hide b6
                      clear x0 x1 x2 x3 hW5 B5 N5 M5 hb5
                      rcases Decidable.em (or2 (s3 x.1.1 x.2.1) (s3 x.1.2 x.2.2) = 0) with hq | hq
                      · gi_wp2
                        exact ⟨M6.out.from _, N6.out, ⟨fun y hy => by
                          rcases List.mem_append.1 hy with h | h
                          · exact hz.out y h
                          · rw [List.mem_singleton.1 h]; exact hq, b6.out⟩, B6.out⟩
                      · gi_wp2
                        exact ⟨(M6.out.trans (KeepsOthers.setCell _ _ _)).from _, rfl, ⟨pre, x, rfl, hz.out, hq, b6.out.set _⟩, (BB.trans (B6.out.mono (Nat.le_of_lt zz))).setCell (Nat.le_refl _) _⟩
                    exact AllReadyIn.nil
                  exact AllReadyIn.nil
                exact AllReadyIn.nil
              exact AllReadyIn.nil
            exact AllReadyIn.nil
          exact AllReadyIn.nil
        exact AllReadyIn.nil
      refine AllReadyIn.cons (o := { dst := some 19, op := Op.load 9 (Operand.tmp 18), type := 9, pos := "label.go:39", after := #[{ on := 5, ground := Ground.data }], guard := none }) rfl (fun K0 hK0 => ?_) ?_
      · go_simp
        refine hK0 _ _ ?_
        clear hK0 K0
        (try simp only [Act.put, List.setIfInBounds_toArray, List.set_cons_zero, List.set_cons_succ])
        refine wpAnyIn_ready (rs := [1, 3]) (by kernel_rfl) (by simp) ?_
        refine AllReadyIn.cons (o := { dst := some 14, op := Op.load 9 (Operand.tmp 13), type := 9, pos := "label.go:39", after := #[{ on := 0, ground := Ground.data }], guard := none }) rfl (fun K0 hK0 => ?_) ?_
        · go_simp
          refine hK0 _ _ ?_
          clear hK0 K0
          (try simp only [Act.put, List.setIfInBounds_toArray, List.set_cons_zero, List.set_cons_succ])
          refine wpAnyIn_ready (rs := [3]) (by kernel_rfl) (by simp) ?_
          refine AllReadyIn.cons (o := { dst := some 16, op := Op.load 9 (Operand.tmp 15), type := 9, pos := "label.go:39", after := #[{ on := 2, ground := Ground.data }], guard := none }) rfl (fun K0 hK0 => ?_) ?_
          · go_simp
            refine hK0 _ _ ?_
            clear hK0 K0
            (try simp only [Act.put, List.setIfInBounds_toArray, List.set_cons_zero, List.set_cons_succ])
            refine wpAnyIn_ready (rs := [4]) (by kernel_rfl) (by simp) ?_
            refine AllReadyIn.cons (o := { dst := some 17, op := Op.call { callee := Callee.value (Operand.func 21), args := #[Operand.tmp 14, Operand.tmp 16], argTypes := #[9, 9] }, type := 3, pos := "label.go:39", after := #[{ on := 1, ground := Ground.data }, { on := 3, ground := Ground.data }], guard := none }) rfl (fun K0 hK0 => ?_) ?_
            · go_simp
              refine ⟨trivial, fun _ => by omega, (callsIn_wide.2 (ahead_any _ _ _)).mono ?_⟩
              rintro e W6 ⟨rfl, hW6⟩
              replace hW6 := hW6.symm
              subst hW6
              refine hK0 _ _ ?_
              clear hK0 K0
              (try simp only [Act.put, List.setIfInBounds_toArray, List.set_cons_zero, List.set_cons_succ])
              refine wpAnyIn_ready (rs := [9]) (by kernel_rfl) (by simp) ?_
              refine AllReadyIn.cons (o := { dst := some 22, op := Op.call { callee := Callee.value (Operand.func 21), args := #[Operand.tmp 19, Operand.tmp 21], argTypes := #[9, 9] }, type := 3, pos := "label.go:39", after := #[{ on := 6, ground := Ground.data }, { on := 8, ground := Ground.data }, { on := 4, ground := Ground.chain }], guard := none }) rfl (fun K0 hK0 => ?_) ?_
              · go_simp
                refine ⟨trivial, fun _ => by omega, (callsIn_wide.2 (ahead_any _ _ _)).mono ?_⟩
                rintro e W6 ⟨rfl, hW6⟩
                replace hW6 := hW6.symm
                subst hW6
                refine hK0 _ _ ?_
                clear hK0 K0
                (try simp only [Act.put, List.setIfInBounds_toArray, List.set_cons_zero, List.set_cons_succ])
                refine wpAnyIn_ready (rs := [10]) (by kernel_rfl) (by simp) ?_
                refine AllReadyIn.cons (o := { dst := some 23, op := Op.buildSlice 52 2 #[(0, Operand.tmp 17), (1, Operand.tmp 22)], type := 52, pos := "label.go:39", after := #[{ on := 4, ground := Ground.data }, { on := 9, ground := Ground.data }], guard := none }) rfl (fun K0 hK0 => ?_) ?_
                · go_simp
                  refine hK0 _ _ ?_
                  clear hK0 K0
                  (try simp only [Act.put, List.setIfInBounds_toArray, List.set_cons_zero, List.set_cons_succ])
                  refine wpAnyIn_ready (rs := [11]) (by kernel_rfl) (by simp) ?_
                  refine AllReadyIn.cons (o := { dst := some 24, op := Op.call { callee := Callee.value (Operand.func 20), args := #[Operand.tmp 23], argTypes := #[52] }, type := 3, pos := "label.go:39", after := #[{ on := 10, ground := Ground.data }, { on := 9, ground := Ground.chain }], guard := none }) rfl (fun K0 hK0 => ?_) ?_
                  · go_simp
                    refine ⟨trivial, fun _ => by omega, (callsIn_wide.2 (or_any (s3 x.1.1 x.2.1) (s3 x.1.2 x.2.2) W5.heap.size _ (cells2 W5 _ _ 3).1 (cells2 W5 _ _ 3).2)).mono ?_⟩
                    rintro e W6 ⟨rfl, hW6⟩
                    replace hW6 := hW6.symm
                    subst hW6
                    refine hK0 _ _ ?_
                    clear hK0 K0
                    (try simp only [Act.put, List.setIfInBounds_toArray, List.set_cons_zero, List.set_cons_succ])
                    refine wpAnyIn_ready (rs := [12]) (by kernel_rfl) (by simp) ?_
                    refine AllReadyIn.cons (o := { dst := some 7, op := Op.assign (Operand.tmp 24), type := 3, pos := "label.go:39", after := #[{ on := 11, ground := Ground.data }, { on := 11, ground := Ground.chain }, { on := 0, ground := Ground.phase }, { on := 1, ground := Ground.phase }, { on := 2, ground := Ground.phase }, { on := 3, ground := Ground.phase }, { on := 4, ground := Ground.phase }, { on := 5, ground := Ground.phase }, { on := 6, ground := Ground.phase }, { on := 7, ground := Ground.phase }, { on := 8, ground := Ground.phase }, { on := 9, ground := Ground.phase }, { on := 10, ground := Ground.phase }, { on := 11, ground := Ground.phase }], guard := none }) rfl (fun K0 hK0 => ?_) ?_
                    · go_simp
                      refine hK0 _ _ ?_
                      clear hK0 K0
                      (try simp only [Act.put, List.setIfInBounds_toArray, List.set_cons_zero, List.set_cons_succ])
                      refine wpAnyIn_done (by kernel_rfl) ?_ _
                      have b6 := hb5.out.alloc (.cells #[.int .i64 (s3 x.1.1 x.2.1), .int .i64 (s3 x.1.2 x.2.2)] 3)
                      have B6 := hide (B5.out.alloc B5.out.size (.cells #[.int .i64 (s3 x.1.1 x.2.1), .int .i64 (s3 x.1.2 x.2.2)] 3))
                      have N6 := hide (N5.out.alloc B5.out.size (.cells #[.int .i64 (s3 x.1.1 x.2.1), .int .i64 (s3 x.1.2 x.2.2)] 3))
                      have M6 := hide (M5.out.trans (KeepsOthers.alloc W5 (.cells #[.int .i64 (s3 x.1.1 x.2.1), .int .i64 (s3 x.1.2 x.2.2)] 3)))
                      generalize W5.alloc (.cells #[.int .i64 (s3 x.1.1 x.2.1), .int .i64 (s3 x.1.2 x.2.2)] 3) = W6 at b6 B6 N6 M6 ⊢
                      have q6 := b6.cell
                      have f6 := b6.frozen
                      replace b6 := hide b6
                      clear x0 x1 x2 x3 hW5 B5 N5 M5 hb5
                      rcases Decidable.em (or2 (s3 x.1.1 x.2.1) (s3 x.1.2 x.2.2) = 0) with hq | hq
                      · gi_wp2
                        exact ⟨M6.out.from _, N6.out, ⟨fun y hy => by
                          rcases List.mem_append.1 hy with h | h
                          · exact hz.out y h
                          · rw [List.mem_singleton.1 h]; exact hq, b6.out⟩, B6.out⟩
                      · gi_wp2
                        exact ⟨(M6.out.trans (KeepsOthers.setCell _ _ _)).from _, rfl, ⟨pre, x, rfl, hz.out, hq, b6.out.set _⟩, (BB.trans (B6.out.mono (Nat.le_of_lt zz))).setCell (Nat.le_refl _) _⟩
                    exact AllReadyIn.nil
                  exact AllReadyIn.nil
                exact AllReadyIn.nil
              exact AllReadyIn.nil
            exact AllReadyIn.nil
          exact AllReadyIn.nil
        refine AllReadyIn.cons (o := { dst := some 16, op := Op.load 9 (Operand.tmp 15), type := 9, pos := "label.go:39", after := #[{ on := 2, ground := Ground.data }], guard := none }) rfl (fun K0 hK0 => ?_) ?_
        · go_simp
          refine hK0 _ _ ?_
          clear hK0 K0
          (try simp only [Act.put, List.setIfInBounds_toArray, List.set_cons_zero, List.set_cons_succ])
          refine wpAnyIn_ready (rs := [1]) (by kernel_rfl) (by simp) ?_
          refine AllReadyIn.cons (o := { dst := some 14, op := Op.load 9 (Operand.tmp 13), type := 9, pos := "label.go:39", after := #[{ on := 0, ground := Ground.data }], guard := none }) rfl (fun K0 hK0 => ?_) ?_
          · go_simp
            refine hK0 _ _ ?_
            clear hK0 K0
            (try simp only [Act.put, List.setIfInBounds_toArray, List.set_cons_zero, List.set_cons_succ])
            refine wpAnyIn_ready (rs := [4]) (by kernel_rfl) (by simp) ?_
            refine AllReadyIn.cons (o := { dst := some 17, op := Op.call { callee := Callee.value (Operand.func 21), args := #[Operand.tmp 14, Operand.tmp 16], argTypes := #[9, 9] }, type := 3, pos := "label.go:39", after := #[{ on := 1, ground := Ground.data }, { on := 3, ground := Ground.data }], guard := none }) rfl (fun K0 hK0 => ?_) ?_
            · go_simp
              refine ⟨trivial, fun _ => by omega, (callsIn_wide.2 (ahead_any _ _ _)).mono ?_⟩
              rintro e W6 ⟨rfl, hW6⟩
              replace hW6 := hW6.symm
              subst hW6
              refine hK0 _ _ ?_
              clear hK0 K0
              (try simp only [Act.put, List.setIfInBounds_toArray, List.set_cons_zero, List.set_cons_succ])
              refine wpAnyIn_ready (rs := [9]) (by kernel_rfl) (by simp) ?_
              refine AllReadyIn.cons (o := { dst := some 22, op := Op.call { callee := Callee.value (Operand.func 21), args := #[Operand.tmp 19, Operand.tmp 21], argTypes := #[9, 9] }, type := 3, pos := "label.go:39", after := #[{ on := 6, ground := Ground.data }, { on := 8, ground := Ground.data }, { on := 4, ground := Ground.chain }], guard := none }) rfl (fun K0 hK0 => ?_) ?_
              · go_simp
                refine ⟨trivial, fun _ => by omega, (callsIn_wide.2 (ahead_any _ _ _)).mono ?_⟩
                rintro e W6 ⟨rfl, hW6⟩
                replace hW6 := hW6.symm
                subst hW6
                refine hK0 _ _ ?_
                clear hK0 K0
                (try simp only [Act.put, List.setIfInBounds_toArray, List.set_cons_zero, List.set_cons_succ])
                refine wpAnyIn_ready (rs := [10]) (by kernel_rfl) (by simp) ?_
                refine AllReadyIn.cons (o := { dst := some 23, op := Op.buildSlice 52 2 #[(0, Operand.tmp 17), (1, Operand.tmp 22)], type := 52, pos := "label.go:39", after := #[{ on := 4, ground := Ground.data }, { on := 9, ground := Ground.data }], guard := none }) rfl (fun K0 hK0 => ?_) ?_
                · go_simp
                  refine hK0 _ _ ?_
                  clear hK0 K0
                  (try simp only [Act.put, List.setIfInBounds_toArray, List.set_cons_zero, List.set_cons_succ])
                  refine wpAnyIn_ready (rs := [11]) (by kernel_rfl) (by simp) ?_
                  refine AllReadyIn.cons (o := { dst := some 24, op := Op.call { callee := Callee.value (Operand.func 20), args := #[Operand.tmp 23], argTypes := #[52] }, type := 3, pos := "label.go:39", after := #[{ on := 10, ground := Ground.data }, { on := 9, ground := Ground.chain }], guard := none }) rfl (fun K0 hK0 => ?_) ?_
                  · go_simp
                    refine ⟨trivial, fun _ => by omega, (callsIn_wide.2 (or_any (s3 x.1.1 x.2.1) (s3 x.1.2 x.2.2) W5.heap.size _ (cells2 W5 _ _ 3).1 (cells2 W5 _ _ 3).2)).mono ?_⟩
                    rintro e W6 ⟨rfl, hW6⟩
                    replace hW6 := hW6.symm
                    subst hW6
                    refine hK0 _ _ ?_
                    clear hK0 K0
                    (try simp only [Act.put, List.setIfInBounds_toArray, List.set_cons_zero, List.set_cons_succ])
                    refine wpAnyIn_ready (rs := [12]) (by kernel_rfl) (by simp) ?_
                    refine AllReadyIn.cons (o := { dst := some 7, op := Op.assign (Operand.tmp 24), type := 3, pos := "label.go:39", after := #[{ on := 11, ground := Ground.data }, { on := 11, ground := Ground.chain }, { on := 0, ground := Ground.phase }, { on := 1, ground := Ground.phase }, { on := 2, ground := Ground.phase }, { on := 3, ground := Ground.phase }, { on := 4, ground := Ground.phase }, { on := 5, ground := Ground.phase }, { on := 6, ground := Ground.phase }, { on := 7, ground := Ground.phase }, { on := 8, ground := Ground.phase }, { on := 9, ground := Ground.phase }, { on := 10, ground := Ground.phase }, { on := 11, ground := Ground.phase }], guard := none }) rfl (fun K0 hK0 => ?_) ?_
                    · go_simp
                      refine hK0 _ _ ?_
                      clear hK0 K0
                      (try simp only [Act.put, List.setIfInBounds_toArray, List.set_cons_zero, List.set_cons_succ])
                      refine wpAnyIn_done (by kernel_rfl) ?_ _
                      have b6 := hb5.out.alloc (.cells #[.int .i64 (s3 x.1.1 x.2.1), .int .i64 (s3 x.1.2 x.2.2)] 3)
                      have B6 := hide (B5.out.alloc B5.out.size (.cells #[.int .i64 (s3 x.1.1 x.2.1), .int .i64 (s3 x.1.2 x.2.2)] 3))
                      have N6 := hide (N5.out.alloc B5.out.size (.cells #[.int .i64 (s3 x.1.1 x.2.1), .int .i64 (s3 x.1.2 x.2.2)] 3))
                      have M6 := hide (M5.out.trans (KeepsOthers.alloc W5 (.cells #[.int .i64 (s3 x.1.1 x.2.1), .int .i64 (s3 x.1.2 x.2.2)] 3)))
                      generalize W5.alloc (.cells #[.int .i64 (s3 x.1.1 x.2.1), .int .i64 (s3 x.1.2 x.2.2)] 3) = W6 at b6 B6 N6 M6 ⊢
                      have q6 := b6.cell
                      have f6 := b6.frozen
                      replace b6 := hide b6
                      clear x0 x1 x2 x3 hW5 B5 N5 M5 hb5
                      rcases Decidable.em (or2 (s3 x.1.1 x.2.1) (s3 x.1.2 x.2.2) = 0) with hq | hq
                      · gi_wp2
                        exact ⟨M6.out.from _, N6.out, ⟨fun y hy => by
                          rcases List.mem_append.1 hy with h | h
                          · exact hz.out y h
                          · rw [List.mem_singleton.1 h]; exact hq, b6.out⟩, B6.out⟩
                      · gi_wp2
                        exact ⟨(M6.out.trans (KeepsOthers.setCell _ _ _)).from _, rfl, ⟨pre, x, rfl, hz.out, hq, b6.out.set _⟩, (BB.trans (B6.out.mono (Nat.le_of_lt zz))).setCell (Nat.le_refl _) _⟩
                    exact AllReadyIn.nil
                  exact AllReadyIn.nil
                exact AllReadyIn.nil
              exact AllReadyIn.nil
            exact AllReadyIn.nil
          exact AllReadyIn.nil
        exact AllReadyIn.nil
      exact AllReadyIn.nil
    exact AllReadyIn.nil
  case done =>
    rintro D ys W hD hys ⟨⟨hz, hb⟩, hB⟩ hK
    have q := hb.cell
    have qf := hb.frozen
    replace hb := hide hb
    gi_wp2
    refine ⟨trivial, (callsIn_wide.2 (aheadI_any _ _ _)).mono ?_⟩
    rintro e W6 ⟨rfl, hW6⟩
    replace hW6 := hW6.symm
    subst hW6
    gi_wp2
    have hK2 : (W.setCell ⟨w.heap.size, 0, none⟩ (.int .i64 (i3 (len : Int) (len' : Int)))).heap[D]? = some (.deferred (some [])) := (Below.heap_setCell W ⟨w.heap.size, 0, none⟩ _ _ (by show D ≠ w.heap.size; omega)).trans hK
    refine ⟨by simp, .inl ⟨_, _, rfl, run_takeDeferred hK2, ?_⟩⟩
    have hc5 : ((W.setCell ⟨w.heap.size, 0, none⟩ (.int .i64 (i3 (len : Int) (len' : Int)))).putObj D (.deferred none)).cell? ⟨w.heap.size, 0, none⟩ = some (.int .i64 (i3 (len : Int) (len' : Int))) :=
      (World.cell?_of_block (World.putObj_heap_other (k := w.heap.size) (by omega))).trans (hb.out.set _).cell
    refine ⟨.int .i64 (i3 (len : Int) (len' : Int)), (by simp [results, Try.f12, go_sem, hc5]), ?_⟩
    subst hys
    exact ⟨by rw [c3_zip hz, hll, hlm], ((BB.trans (hB.mono (Nat.le_of_lt zz))).setCell (Nat.le_refl _) _).trans (belowK_b (w := w) (Nat.le_refl _) _ D _ _ (by omega) hK2 rfl rfl)⟩
  case stop =>
    rintro D c pre W hD hpre ⟨rfl, ⟨pre', x, rfl, h3, h4, h5⟩, hB⟩ hK
    gi_wp2
    refine ⟨by simp, .inl ⟨_, _, rfl, run_takeDeferred hK, ?_⟩⟩
    have hc5 : (W.putObj D (.deferred none)).cell? ⟨w.heap.size, 0, none⟩ = some (.int .i64 (l3 x.1 x.2)) :=
      (World.cell?_of_block (World.putObj_heap_other (k := w.heap.size) (by omega))).trans h5.cell
    refine ⟨.int .i64 (l3 x.1 x.2), (by simp [results, Try.f12, go_sem, hc5]), ?_⟩
    exact ⟨by rw [c3_first hpre h3 h4], hB.trans (belowK_b (w := w) (Nat.le_refl _) _ D _ _ (by omega) hK rfl rfl)⟩
theorem compare_any (a a' : Option Addr) (len cap len' cap' : Nat) (L M : List Lab) (w : World) (hL : HasB w a len cap L) (hM : HasB w a' len' cap' M) :
    Calls Try.prog 12 #[.slice a len cap, .slice a' len' cap'] w fun e w' => e = .returned (.int .i64 (c3 L M)) ∧ Below w.heap.size w w' :=
  callsIn_wide.1 (compare_in 5 (by omega) a a' len cap len' cap' L M w hL hM)
end Go.Proofs.Ytfkjdibhnabkaaa
