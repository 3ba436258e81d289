/-
  Two rising lists merged.
-/
import Derived.Test.YtmjjedbdedemcaaDoorTR
namespace Go.Proofs.YtmjjedbdedemcaaDoor
open Go.RowKit
set_option linter.unusedVariables false
set_option linter.unusedSimpArgs false

/-- What holds between rounds of merged. -/
structure MI (w : World) (A0 B0 A B L : List Smp) (aa : Option Addr) (la ca : Nat) (ab : Option Addr) (lb cb : Nat) (ao : Option Addr) (k co : Nat) (wr : World) : Prop where
  hA : HasS w aa la ca A
  hB : HasS w ab lb cb B
  own : wr.ownsRow w.heap.size 50 2 (.slice ao k co) k (flat L)
  bel : Below w.heap.size w wr
  eq : mrg A0 B0 = L ++ mrg A B
  sz : k + la + lb ≤ A0.length + B0.length
def slLen : Value → Nat | .slice _ n _ => n | _ => 0
theorem MI.keep {w : World} {A0 B0 A B L : List Smp} {aa : Option Addr} {la ca : Nat} {ab : Option Addr} {lb cb : Nat} {ao : Option Addr} {k co : Nat} {wr w3 : World} (h : MI w A0 B0 A B L aa la ca ab lb cb ao k co wr) (b : Below wr.heap.size wr w3) : MI w A0 B0 A B L aa la ca ab lb cb ao k co w3 := by
  refine ⟨h.hA, h.hB, h.own.kept (row := none) ⟨b.os, b.tape, b.output, b.size, fun i hi _ => b.block i hi⟩ ?_, h.bel.trans (b.mono h.bel.size), h.eq, h.sz⟩
  cases e : (Value.slice ao k co).ownBlock with
  | none => exact .inl rfl
  | some g => exact .inr (by simp)
theorem slice_form {w : World} {a : Option Addr} {n cap : Nat} {L : List Smp} (h : HasS w a n cap L) (hn : 0 < n) : ∃ b off x L', a = some ⟨b, off, none⟩ ∧ b < w.heap.size ∧ L = x :: L' ∧ w.cell? ⟨b, off, none⟩ = some (.int .i64 x.1) ∧ w.cell? ⟨b, off + 1, none⟩ = some (.int .u64 (x.2 : Int)) ∧ x.2 < 18446744073709551616 := by
  obtain ⟨b, off, e, hb, hc⟩ := h.cells hn
  cases L with
  | nil => have := h.hlen; simp at this; omega
  | cons x L' =>
    have := hc 0 hn
    simp only [Nat.zero_mul, Nat.add_zero, List.getD_cons_zero] at this
    exact ⟨b, off, x, L', e, hb, rfl, this.1, this.2, h.vb x (by simp)⟩

theorem HasS.rest {w : World} {b off n cap : Nat} {x : Smp} {L : List Smp} (h : HasS w (some ⟨b, off, none⟩) n cap (x :: L)) : HasS w (if cap = 1 then some ⟨b, off, none⟩ else some ⟨b, off + 2, none⟩) (n - 1) (cap - 1) L := by
  have hn := h.hlen
  simp only [List.length_cons] at hn
  obtain ⟨m, rfl⟩ : ∃ m, n = m + 1 := ⟨n - 1, by omega⟩
  have hle := h.le
  by_cases hc : cap = 1
  · obtain rfl : m = 0 := by omega
    rw [if_pos hc]
    exact h.tail0 (by simp)
  · rw [if_neg hc]
    exact h.tail
theorem MI.owned {w : World} {A0 B0 A B L : List Smp} {aa : Option Addr} {la ca : Nat} {ab : Option Addr} {lb cb : Nat} {ao : Option Addr} {k co : Nat} {wr : World} (h : MI w A0 B0 A B L aa la ca ab lb cb ao k co wr) {o : Obj} {w2 : World} {v3 : Value} {x : Smp}
    (O : w2.ownsRow w.heap.size 50 2 v3 (k + 1) (flat (L ++ [x]))) (G : (wr.alloc o).drew.grownBy w2 (Value.slice ao k co).ownBlock) : ∃ a3 c3, v3 = .slice a3 (k + 1) c3 ∧ w2.ownsRow w.heap.size 50 2 (.slice a3 (k + 1) c3) (k + 1) (flat (L ++ [x])) ∧ Below w.heap.size w w2 := by
  obtain ⟨a3, c3, e3⟩ := slice_of_owns O
  subst e3
  exact ⟨a3, c3, rfl, O, ((h.bel.alloc h.bel.size o).drew).grown G (by have := h.bel.size; show w.heap.size ≤ (wr.alloc o).heap.size; simp; omega) (fun q e => (h.own.lt q e).1)⟩
theorem MI.fst {w : World} {A0 B0 A B L : List Smp} {pb po la ca : Nat} {ab : Option Addr} {lb cb : Nat} {ao : Option Addr} {k co : Nat} {wr : World} {x y : Smp} (h : MI w A0 B0 (x :: A) (y :: B) L (some ⟨pb, po, none⟩) la ca ab lb cb ao k co wr) (hxy : x.1 < y.1) {o : Obj} {w2 : World} {v3 : Value}
    (O : w2.ownsRow w.heap.size 50 2 v3 (k + 1) (flat (L ++ [x]))) (G : (wr.alloc o).drew.grownBy w2 (Value.slice ao k co).ownBlock) : ∃ a3 c3, v3 = .slice a3 (k + 1) c3 ∧ MI w A0 B0 A (y :: B) (L ++ [x]) (if ca = 1 then some ⟨pb, po, none⟩ else some ⟨pb, po + 2, none⟩) (la - 1) (ca - 1) ab lb cb a3 (k + 1) c3 w2 := by
  obtain ⟨a3, c3, e3, O3, B3⟩ := h.owned O G
  have hn := h.hA.hlen
  simp only [List.length_cons] at hn
  exact ⟨a3, c3, e3, h.hA.rest, h.hB, O3, B3, by rw [h.eq, mrg_lt hxy]; simp, by have := h.sz; omega⟩
theorem MI.snd {w : World} {A0 B0 A B L : List Smp} {qb qo lb cb : Nat} {aa : Option Addr} {la ca : Nat} {ao : Option Addr} {k co : Nat} {wr : World} {x y : Smp} (h : MI w A0 B0 (x :: A) (y :: B) L aa la ca (some ⟨qb, qo, none⟩) lb cb ao k co wr) (hxy : y.1 < x.1) {o : Obj} {w2 : World} {v3 : Value}
    (O : w2.ownsRow w.heap.size 50 2 v3 (k + 1) (flat (L ++ [y]))) (G : (wr.alloc o).drew.grownBy w2 (Value.slice ao k co).ownBlock) : ∃ a3 c3, v3 = .slice a3 (k + 1) c3 ∧ MI w A0 B0 (x :: A) B (L ++ [y]) aa la ca (if cb = 1 then some ⟨qb, qo, none⟩ else some ⟨qb, qo + 2, none⟩) (lb - 1) (cb - 1) a3 (k + 1) c3 w2 := by
  obtain ⟨a3, c3, e3, O3, B3⟩ := h.owned O G
  have hn := h.hB.hlen
  simp only [List.length_cons] at hn
  exact ⟨a3, c3, e3, h.hA, h.hB.rest, O3, B3, by rw [h.eq, mrg_gt hxy]; simp, by have := h.sz; omega⟩
theorem MI.skip {w : World} {A0 B0 A B L : List Smp} {pb po la ca : Nat} {ab : Option Addr} {lb cb : Nat} {ao : Option Addr} {k co : Nat} {wr : World} {x y : Smp} (h : MI w A0 B0 (x :: A) (y :: B) L (some ⟨pb, po, none⟩) la ca ab lb cb ao k co wr) (hxy : x.1 = y.1) : MI w A0 B0 A (y :: B) L (if ca = 1 then some ⟨pb, po, none⟩ else some ⟨pb, po + 2, none⟩) (la - 1) (ca - 1) ab lb cb ao k co wr :=
  ⟨h.hA.rest, h.hB, h.own, h.bel, by rw [h.eq, mrg_eq hxy], by have := h.sz; omega⟩
theorem MI.ends {w : World} {A0 B0 A B L : List Smp} {aa : Option Addr} {la ca : Nat} {ab : Option Addr} {lb cb : Nat} {ao : Option Addr} {k co : Nat} {wr : World} (h : MI w A0 B0 A B L aa la ca ab lb cb ao k co wr) (h0 : la = 0 ∨ lb = 0) {w2 w3 : World} {v2 v3 : Value}
    (O2 : w2.ownsRow w.heap.size 50 2 v2 (k + la) (flat (L ++ A))) (G2 : wr.grownBy w2 (Value.slice ao k co).ownBlock) (O3 : w3.ownsRow w.heap.size 50 2 v3 (k + la + lb) (flat (L ++ A ++ B))) (G3 : w2.grownBy w3 v2.ownBlock) (hvb : ∀ s ∈ mrg A0 B0, s.2 < 18446744073709551616) : Smps w (mrg A0 B0) (.returned v3) w3 := by
  have e : mrg A0 B0 = L ++ A ++ B := by
    rw [h.eq]
    have ha := h.hA.hlen
    have hb := h.hB.hlen
    rcases h0 with h0 | h0
    · obtain rfl : A = [] := List.eq_nil_of_length_eq_zero (by omega)
      rw [mrg_nil']; simp
    · obtain rfl : B = [] := List.eq_nil_of_length_eq_zero (by omega)
      rw [mrg_nil]; simp
  have B2 := h.bel.grown G2 h.bel.size (fun q e => (h.own.lt q e).1)
  have B3 := B2.grown G3 B2.size (fun q e => (O2.lt q e).1)
  rw [e] at hvb
  obtain ⟨a3, c3, e3, H3⟩ := hasS_of_owns O3 hvb
  subst e3
  have hl : (L ++ A ++ B).length = k + la + lb := H3.hlen
  rw [e]
  unfold Smps
  rw [hl]
  exact ⟨a3, c3, rfl, H3, B3, O3⟩

set_option maxRecDepth 100000 in
set_option maxHeartbeats 4000000 in
theorem merged_any (w : World) (a : Option Addr) (la0 ca0 : Nat) (A0 : List Smp) (h : HasS w a la0 ca0 A0) (b : Option Addr) (lb0 cb0 : Nat) (B0 : List Smp) (h' : HasS w b lb0 cb0 B0) (hsz : la0 + lb0 ≤ 1099511627776) :
    Calls Tryd.prog 26 #[.slice a la0 ca0, .slice b lb0 cb0, (.func (.func 27) #[] #[])] w (Smps w (mrg A0 B0)) := by
  have hl := h.hlen
  have hl' := h'.hlen
  have hvb : Hid (∀ s ∈ mrg A0 B0, s.2 < 18446744073709551616) := fun s hs => by
    rcases mrg_mem A0 B0 s hs with hs | hs
    · exact h.vb s hs
    · exact h'.vb s hs
  obtain ⟨N, hN⟩ : ∃ N, la0 + lb0 = N := ⟨_, rfl⟩
  have hN' : (la0 : Int) + (lb0 : Int) = (N : Int) := by omega
  have hNb : N ≤ 1099511627776 := by omega
  replace h := hide h
  replace h' := hide h'
  replace hN := hide hN
  go_enter Tryd.func26, Tryd.ntmps26
  go_wp2_with (refine wpList_makeS rfl (.const (.int .i64 0)) (.tmp 13) rfl N _ rfl rfl rfl hNb ?_; intro w1 O1 b1 z1; replace O1 := hide O1; replace b1 := hide b1; clear z1)
  go_loopw [0, 1, 7, 8, 33, 44] (fun av bv ov _ _ _ wr => ∃ (A B L : List Smp) (aa : Option Addr) (la ca : Nat) (ab : Option Addr) (lb cb : Nat) (ao : Option Addr) (k co : Nat), av = .slice aa la ca ∧ bv = .slice ab lb cb ∧ ov = .slice ao k co ∧ Hid (MI w A0 B0 A B L aa la ca ab lb cb ao k co wr)) (fun av bv _ _ _ _ _ => slLen av + slLen bv)
  case atStart => exact ⟨A0, B0, [], a, la0, ca0, b, lb0, cb0, _, _, _, rfl, rfl, rfl, (⟨h.out, h'.out, O1.out, b1.out, rfl, by omega⟩ : MI w A0 B0 A0 B0 [] a la0 ca0 b lb0 cb0 _ _ _ _)⟩
  case round =>
    obtain ⟨A, B, L, aa, la, ca, ab, lb, cb, ao, k, co, rfl, rfl, rfl, hI⟩ := hrel
    by_cases hab : 0 < la ∧ 0 < lb
    · obtain ⟨h0a, h0b⟩ := hab
      obtain ⟨pb, po, x, A', rfl, hpb, rfl, pc0, pc1, hx64⟩ := slice_form hI.out.hA h0a
      obtain ⟨qb, qo, y, B', rfl, hqb, rfl, qc0, qc1, hy64⟩ := slice_form hI.out.hB h0b
      obtain ⟨x0, x1⟩ := x
      obtain ⟨y0, y1⟩ := y
      simp only at pc0 pc1 hx64 qc0 qc1 hy64
      have j1 : (0 : Int) < (la : Int) := by omega
      have j2 : (0 : Int) < (lb : Int) := by omega
      have c0 := (hI.out.bel.cell (p := ⟨pb, po, none⟩) hpb).trans pc0
      have c1 := (hI.out.bel.cell (p := ⟨pb, po + 1, none⟩) hpb).trans pc1
      have d0 := (hI.out.bel.cell (p := ⟨qb, qo, none⟩) hqb).trans qc0
      have d1 := (hI.out.bel.cell (p := ⟨qb, qo + 1, none⟩) hqb).trans qc1
      have hsz2 := hI.out.sz
      have hca := hI.out.hA.le
      have hcb := hI.out.hB.le
      rcases Int.lt_trichotomy x0 y0 with hxy | hxy | hxy
      · have BT : ∀ wx, Calls Tryd.prog 27 #[.agg #[.int .i64 x0, .int .u64 (x1 : Int)], .agg #[.int .i64 y0, .int .u64 (y1 : Int)]] wx fun e w' => e = .returned (.int .i64 (-1)) ∧ Below wx.heap.size wx w' := fun wx => by
          have := byTime_any x0 x1 y0 y1 wx
          rwa [show cmpI x0 y0 = -1 by unfold cmpI; rw [if_pos hxy]] at this
        replace BT := hide BT
        replace hxy := hide hxy
        go_upto_region 3 with fail
        refine wp_region_held_drew (S := (fun w' => w'.cell? ⟨pb, po, none⟩ = some (.int .i64 x0) ∧ w'.cell? ⟨pb, po + 1, none⟩ = some (.int .u64 (x1 : Int)) ∧ w'.cell? ⟨qb, qo, none⟩ = some (.int .i64 y0) ∧ w'.cell? ⟨qb, qo + 1, none⟩ = some (.int .u64 (y1 : Int)))) (by kernel_rfl) ⟨c0, c1, d0, d1⟩ (fun hH0 => ?_)
        refine wpAnyH_take (i := 0) (oi := { dst := some 23, op := Op.move (Operand.tmp 2), type := 67, pos := "chunk.go:210", after := #[], guard := none }) (v := ?_) rfl (by kernel_rfl) (by kernel_rfl) (by kernel_rfl) (fun _ _ _ h => h) (Or.inl ⟨by rfl, ?_⟩) hH0 ?_
        rotate_left
        · intro w' hw'
          obtain ⟨c0, c1, d0, d1⟩ := hw'
          go_simp
          try with_reducible rfl
        try simp only [Act.put, List.setIfInBounds_toArray, List.set_cons_zero, List.set_cons_succ]
        refine wpAnyH_take (i := 1) (oi := { dst := some 24, op := Op.move (Operand.tmp 0), type := 26, pos := "chunk.go:210", after := #[], guard := none }) (v := ?_) rfl (by kernel_rfl) (by kernel_rfl) (by kernel_rfl) (fun _ _ _ h => h) (Or.inl ⟨by rfl, ?_⟩) hH0 ?_
        rotate_left
        · intro w' hw'
          obtain ⟨c0, c1, d0, d1⟩ := hw'
          go_simp
          try with_reducible rfl
        try simp only [Act.put, List.setIfInBounds_toArray, List.set_cons_zero, List.set_cons_succ]
        refine wpAnyH_take (i := 2) (oi := { dst := some 25, op := Op.indexAddr 26 (Operand.tmp 24) (Operand.const (Value.int IntKind.i64 0)), type := 0, pos := "chunk.go:210", after := #[{ on := 1, ground := Ground.data }], guard := none }) (v := ?_) rfl (by kernel_rfl) (by kernel_rfl) (by kernel_rfl) (fun _ _ _ h => h) (Or.inl ⟨by rfl, ?_⟩) hH0 ?_
        rotate_left
        · intro w' hw'
          obtain ⟨c0, c1, d0, d1⟩ := hw'
          go_simp
          try with_reducible rfl
        try simp only [Act.put, List.setIfInBounds_toArray, List.set_cons_zero, List.set_cons_succ]
        refine wpAnyH_take (i := 3) (oi := { dst := some 26, op := Op.load 50 (Operand.tmp 25), type := 50, pos := "chunk.go:210", after := #[{ on := 2, ground := Ground.data }], guard := none }) (v := ?_) rfl (by kernel_rfl) (by kernel_rfl) (by kernel_rfl) (fun _ _ _ h => h) (Or.inl ⟨by rfl, ?_⟩) hH0 ?_
        rotate_left
        · intro w' hw'
          obtain ⟨c0, c1, d0, d1⟩ := hw'
          go_simp
          try with_reducible rfl
        try simp only [Act.put, List.setIfInBounds_toArray, List.set_cons_zero, List.set_cons_succ]
        refine wpAnyH_take (i := 4) (oi := { dst := some 27, op := Op.move (Operand.tmp 1), type := 26, pos := "chunk.go:210", after := #[], guard := none }) (v := ?_) rfl (by kernel_rfl) (by kernel_rfl) (by kernel_rfl) (fun _ _ _ h => h) (Or.inl ⟨by rfl, ?_⟩) hH0 ?_
        rotate_left
        · intro w' hw'
          obtain ⟨c0, c1, d0, d1⟩ := hw'
          go_simp
          try with_reducible rfl
        try simp only [Act.put, List.setIfInBounds_toArray, List.set_cons_zero, List.set_cons_succ]
        refine wpAnyH_take (i := 5) (oi := { dst := some 28, op := Op.indexAddr 26 (Operand.tmp 27) (Operand.const (Value.int IntKind.i64 0)), type := 0, pos := "chunk.go:210", after := #[{ on := 4, ground := Ground.data }], guard := none }) (v := ?_) rfl (by kernel_rfl) (by kernel_rfl) (by kernel_rfl) (fun _ _ _ h => h) (Or.inl ⟨by rfl, ?_⟩) hH0 ?_
        rotate_left
        · intro w' hw'
          obtain ⟨c0, c1, d0, d1⟩ := hw'
          go_simp
          try with_reducible rfl
        try simp only [Act.put, List.setIfInBounds_toArray, List.set_cons_zero, List.set_cons_succ]
        refine wpAnyH_take (i := 6) (oi := { dst := some 29, op := Op.load 50 (Operand.tmp 28), type := 50, pos := "chunk.go:210", after := #[{ on := 5, ground := Ground.data }], guard := none }) (v := ?_) rfl (by kernel_rfl) (by kernel_rfl) (by kernel_rfl) (fun _ _ _ h => h) (Or.inl ⟨by rfl, ?_⟩) hH0 ?_
        rotate_left
        · intro w' hw'
          obtain ⟨c0, c1, d0, d1⟩ := hw'
          go_simp
          try with_reducible rfl
        try simp only [Act.put, List.setIfInBounds_toArray, List.set_cons_zero, List.set_cons_succ]
        refine wpAnyH_ready (rs := [7]) (by kernel_rfl) (by simp) ?_
        refine AllReadyH.cons (o := { dst := some 30, op := Op.call { callee := Callee.value (Operand.tmp 23), args := #[Operand.tmp 26, Operand.tmp 29], argTypes := #[50, 50] }, type := 3, pos := "chunk.go:210", after := #[{ on := 0, ground := Ground.data }, { on := 3, ground := Ground.data }, { on := 6, ground := Ground.data }], guard := none }) rfl (fun K hK => ?_) AllReadyH.nil
        go_simp
        refine (BT.out _).mono ?_
        rintro e w3 ⟨rfl, b3⟩
        have I3 := hide (hI.out.keep ((Below.refl _ wr).drew.trans b3))
        have cc : w3.cell? ⟨pb, po, none⟩ = some (.int .i64 x0) ∧ w3.cell? ⟨pb, po + 1, none⟩ = some (.int .u64 (x1 : Int)) ∧ w3.cell? ⟨qb, qo, none⟩ = some (.int .i64 y0) ∧ w3.cell? ⟨qb, qo + 1, none⟩ = some (.int .u64 (y1 : Int)) := ⟨(I3.out.bel.cell (p := ⟨pb, po, none⟩) hpb).trans pc0, (I3.out.bel.cell (p := ⟨pb, po + 1, none⟩) hpb).trans pc1, (I3.out.bel.cell (p := ⟨qb, qo, none⟩) hqb).trans qc0, (I3.out.bel.cell (p := ⟨qb, qo + 1, none⟩) hqb).trans qc1⟩
        clear b3 BT hI
        refine hK.out _ _ cc (fun hH1 => ?_)
        clear hK
        try simp only [Act.put, List.setIfInBounds_toArray, List.set_cons_zero, List.set_cons_succ]
        refine wpAnyH_take (i := 8) (oi := { dst := some 8, op := Op.assign (Operand.tmp 30), type := 3, pos := "chunk.go:210", after := #[{ on := 7, ground := Ground.data }, { on := 7, ground := Ground.chain }, { on := 0, ground := Ground.phase }, { on := 1, ground := Ground.phase }, { on := 2, ground := Ground.phase }, { on := 3, ground := Ground.phase }, { on := 4, ground := Ground.phase }, { on := 5, ground := Ground.phase }, { on := 6, ground := Ground.phase }, { on := 7, ground := Ground.phase }], guard := none }) (v := ?_) rfl (by kernel_rfl) (by kernel_rfl) (by kernel_rfl) (fun _ _ _ h => h) (Or.inl ⟨by rfl, ?_⟩) hH1 ?_
        rotate_left
        · intro w' hw'
          obtain ⟨c0, c1, d0, d1⟩ := hw'
          go_simp
          try with_reducible rfl
        try simp only [Act.put, List.setIfInBounds_toArray, List.set_cons_zero, List.set_cons_succ]
        refine wpAnyH_done (by kernel_rfl) ?_ _
        go_upto_region 6 with fail
        obtain ⟨c0, c1, d0, d1⟩ := cc
        clear pc0 pc1 qc0 qc1
        have j3 : (1 : Int) ≤ (la : Int) := by omega
        have j4 : (la : Int) ≤ (ca : Int) := by omega
        have j5 : (1 : Int) ≤ (ca : Int) := by omega
        have OO : Hid ((w3.alloc (.cells #[.int .i64 x0, .int .u64 (x1 : Int)] 50)).drew.ownsRow w.heap.size 50 2 (.slice ao k co) k (flat L)) := (I3.out.own.alloc _).drew
        have HH : Hid (HasS (w3.alloc (.cells #[.int .i64 x0, .int .u64 (x1 : Int)] 50)).drew (some ⟨w3.heap.size, 0, none⟩) 1 1 [(x0, x1)]) := (hasS_one w3 x0 x1 hx64).kept (Below.refl _ _).drew (Nat.le_refl _)
        have bb : Hid (w.heap.size ≤ (w3.alloc (.cells #[.int .i64 x0, .int .u64 (x1 : Int)] 50)).drew.heap.size) := by have := I3.out.bel.size; show w.heap.size ≤ (w3.alloc _).heap.size; simp; omega
        have c2 := hide (((Below.refl _ w3).alloc (Nat.le_refl _) (.cells #[.int .i64 x0, .int .u64 (x1 : Int)] 50)).drew)
        have c3 := hide (Nat.lt_of_lt_of_le hpb I3.out.bel.size)
        have c4 := hide (Nat.lt_of_lt_of_le hqb I3.out.bel.size)
        refine wp_region_held_drew (S := (fun w' => w'.cell? ⟨pb, po, none⟩ = some (.int .i64 x0) ∧ w'.cell? ⟨pb, po + 1, none⟩ = some (.int .u64 (x1 : Int)) ∧ w'.cell? ⟨qb, qo, none⟩ = some (.int .i64 y0) ∧ w'.cell? ⟨qb, qo + 1, none⟩ = some (.int .u64 (y1 : Int)))) (by kernel_rfl) ⟨c0, c1, d0, d1⟩ (fun hH0 => ?_)
        refine wpAnyH_take (i := 0) (oi := { dst := some 36, op := Op.move (Operand.tmp 7), type := 26, pos := "chunk.go:212", after := #[], guard := none }) (v := ?_) rfl (by kernel_rfl) (by kernel_rfl) (by kernel_rfl) (fun _ _ _ h => h) (Or.inl ⟨by rfl, ?_⟩) hH0 ?_
        rotate_left
        · intro w' hw'
          obtain ⟨c0, c1, d0, d1⟩ := hw'
          go_simp
          try with_reducible rfl
        try simp only [Act.put, List.setIfInBounds_toArray, List.set_cons_zero, List.set_cons_succ]
        refine wpAnyH_take (i := 1) (oi := { dst := some 37, op := Op.move (Operand.tmp 0), type := 26, pos := "chunk.go:212", after := #[], guard := none }) (v := ?_) rfl (by kernel_rfl) (by kernel_rfl) (by kernel_rfl) (fun _ _ _ h => h) (Or.inl ⟨by rfl, ?_⟩) hH0 ?_
        rotate_left
        · intro w' hw'
          obtain ⟨c0, c1, d0, d1⟩ := hw'
          go_simp
          try with_reducible rfl
        try simp only [Act.put, List.setIfInBounds_toArray, List.set_cons_zero, List.set_cons_succ]
        refine wpAnyH_take (i := 2) (oi := { dst := some 38, op := Op.indexAddr 26 (Operand.tmp 37) (Operand.const (Value.int IntKind.i64 0)), type := 0, pos := "chunk.go:212", after := #[{ on := 1, ground := Ground.data }], guard := none }) (v := ?_) rfl (by kernel_rfl) (by kernel_rfl) (by kernel_rfl) (fun _ _ _ h => h) (Or.inl ⟨by rfl, ?_⟩) hH0 ?_
        rotate_left
        · intro w' hw'
          obtain ⟨c0, c1, d0, d1⟩ := hw'
          go_simp
          try with_reducible rfl
        try simp only [Act.put, List.setIfInBounds_toArray, List.set_cons_zero, List.set_cons_succ]
        refine wpAnyH_take (i := 3) (oi := { dst := some 39, op := Op.load 50 (Operand.tmp 38), type := 50, pos := "chunk.go:212", after := #[{ on := 2, ground := Ground.data }], guard := none }) (v := ?_) rfl (by kernel_rfl) (by kernel_rfl) (by kernel_rfl) (fun _ _ _ h => h) (Or.inl ⟨by rfl, ?_⟩) hH0 ?_
        rotate_left
        · intro w' hw'
          obtain ⟨c0, c1, d0, d1⟩ := hw'
          go_simp
          try with_reducible rfl
        try simp only [Act.put, List.setIfInBounds_toArray, List.set_cons_zero, List.set_cons_succ]
        refine wpAnyH_take (i := 6) (oi := { dst := some 42, op := Op.move (Operand.tmp 0), type := 26, pos := "chunk.go:212", after := #[], guard := none }) (v := ?_) rfl (by kernel_rfl) (by kernel_rfl) (by kernel_rfl) (fun _ _ _ h => h) (Or.inl ⟨by rfl, ?_⟩) hH0 ?_
        rotate_left
        · intro w' hw'
          obtain ⟨c0, c1, d0, d1⟩ := hw'
          go_simp
          try with_reducible rfl
        try simp only [Act.put, List.setIfInBounds_toArray, List.set_cons_zero, List.set_cons_succ]
        refine wpAnyH_take (i := 7) (oi := { dst := some 43, op := Op.slice 26 (Operand.tmp 42) (some (Operand.const (Value.int IntKind.i64 1))) none none, type := 26, pos := "chunk.go:212", after := #[{ on := 6, ground := Ground.data }], guard := none }) (v := ?_) rfl (by kernel_rfl) (by kernel_rfl) (by kernel_rfl) (fun _ _ _ h => h) (Or.inl ⟨by rfl, ?_⟩) hH0 ?_
        rotate_left
        · intro w' hw'
          obtain ⟨c0, c1, d0, d1⟩ := hw'
          go_simp
          try with_reducible rfl
        try simp only [Act.put, List.setIfInBounds_toArray, List.set_cons_zero, List.set_cons_succ]
        refine wpAnyH_ready (rs := [4]) (by kernel_rfl) (by simp) ?_
        refine AllReadyH.cons (o := { dst := some 40, op := Op.buildSlice 26 1 #[(0, Operand.tmp 39)], type := 26, pos := "chunk.go:212", after := #[{ on := 3, ground := Ground.data }], guard := none }) rfl (fun K hK => ?_) AllReadyH.nil
        go_simp
        refine hK.out _ _ ⟨(c2.out.cell (p := ⟨pb, po, none⟩) c3.out).trans c0, (c2.out.cell (p := ⟨pb, po + 1, none⟩) c3.out).trans c1, (c2.out.cell (p := ⟨qb, qo, none⟩) c4.out).trans d0, (c2.out.cell (p := ⟨qb, qo + 1, none⟩) c4.out).trans d1⟩ (fun hH1 => ?_)
        clear hK
        try simp only [Act.put, List.setIfInBounds_toArray, List.set_cons_zero, List.set_cons_succ]
        refine wpAnyH_ready (rs := [5]) (by kernel_rfl) (by simp) ?_
        refine AllReadyH.cons (o := { dst := some 41, op := Op.call { callee := Callee.builtin Builtin.append, args := #[Operand.tmp 36, Operand.tmp 40], argTypes := #[26, 26] }, type := 26, pos := "chunk.go:212", after := #[{ on := 0, ground := Ground.data }, { on := 4, ground := Ground.data }], guard := none }) rfl (fun K hK => ?_) AllReadyH.nil
        refine step_appS rfl (.tmp 36) (.tmp 40) rfl w.heap.size _ k L rfl OO.out _ 1 1 [(x0, x1)] rfl HH.out (by omega) bb.out ?_
        intro v5 w5 O5 G5
        obtain ⟨a5, c5, e5, I5⟩ := I3.out.fst hxy.out O5 G5
        subst e5
        replace I5 := hide I5
        have hcell : ∀ (q : Addr), q.block < w.heap.size → w5.cell? q = w3.cell? q := fun q hq => (I5.out.bel.cell (p := q) hq).trans (I3.out.bel.cell (p := q) hq).symm
        refine hK.out _ _ ⟨(hcell ⟨pb, po, none⟩ hpb).trans c0, (hcell ⟨pb, po + 1, none⟩ hpb).trans c1, (hcell ⟨qb, qo, none⟩ hqb).trans d0, (hcell ⟨qb, qo + 1, none⟩ hqb).trans d1⟩ (fun hH2 => ?_)
        clear hK
        try simp only [Act.put, List.setIfInBounds_toArray, List.set_cons_zero, List.set_cons_succ]
        refine wpAnyH_take (i := 8) (oi := { dst := some 7, op := Op.assign (Operand.tmp 41), type := 26, pos := "chunk.go:212", after := #[{ on := 5, ground := Ground.data }, { on := 5, ground := Ground.chain }, { on := 0, ground := Ground.phase }, { on := 1, ground := Ground.phase }, { on := 2, ground := Ground.phase }, { on := 3, ground := Ground.phase }, { on := 4, ground := Ground.phase }, { on := 5, ground := Ground.phase }, { on := 6, ground := Ground.textOnly Departure.lateStores }, { on := 7, ground := Ground.textOnly Departure.lateStoresUnsure }], guard := none }) (v := ?_) rfl (by kernel_rfl) (by kernel_rfl) (by kernel_rfl) (fun _ _ _ h => h) (Or.inl ⟨by rfl, ?_⟩) hH2 ?_
        rotate_left
        · intro w' hw'
          obtain ⟨c0, c1, d0, d1⟩ := hw'
          go_simp
          try with_reducible rfl
        try simp only [Act.put, List.setIfInBounds_toArray, List.set_cons_zero, List.set_cons_succ]
        refine wpAnyH_take (i := 9) (oi := { dst := some 0, op := Op.assign (Operand.tmp 43), type := 26, pos := "chunk.go:212", after := #[{ on := 7, ground := Ground.data }, { on := 8, ground := Ground.chain }, { on := 0, ground := Ground.phase }, { on := 1, ground := Ground.phase }, { on := 2, ground := Ground.phase }, { on := 3, ground := Ground.phase }, { on := 4, ground := Ground.phase }, { on := 5, ground := Ground.phase }, { on := 6, ground := Ground.phase }, { on := 7, ground := Ground.phase }, { on := 8, ground := Ground.phase }], guard := none }) (v := ?_) rfl (by kernel_rfl) (by kernel_rfl) (by kernel_rfl) (fun _ _ _ h => h) (Or.inl ⟨by rfl, ?_⟩) hH2 ?_
        rotate_left
        · intro w' hw'
          obtain ⟨c0, c1, d0, d1⟩ := hw'
          go_simp
          try with_reducible rfl
        try simp only [Act.put, List.setIfInBounds_toArray, List.set_cons_zero, List.set_cons_succ]
        refine wpAnyH_done (by kernel_rfl) ?_ _
        clear O5 G5 I3 OO HH bb c2 c3 c4 hcell c0 c1 d0 d1
        generalize (if ca = 1 then some (⟨pb, po, none⟩ : Addr) else some ⟨pb, po + 2, none⟩) = ad4 at *
        go_wp2_with fail
        go_roundw
        case rel => exact ⟨A', (y0, y1) :: B', L ++ [(x0, x1)], ad4, la - 1, ca - 1, some ⟨qb, qo, none⟩, lb, cb, a5, k + 1, c5, rfl, rfl, rfl, I5⟩
        case measure => simp [slLen]; omega
      · have BT : ∀ wx, Calls Tryd.prog 27 #[.agg #[.int .i64 x0, .int .u64 (x1 : Int)], .agg #[.int .i64 y0, .int .u64 (y1 : Int)]] wx fun e w' => e = .returned (.int .i64 (0)) ∧ Below wx.heap.size wx w' := fun wx => by
          have := byTime_any x0 x1 y0 y1 wx
          rwa [show cmpI x0 y0 = 0 by unfold cmpI; rw [if_neg (by omega), if_neg (by omega)]] at this
        replace BT := hide BT
        replace hxy := hide hxy
        go_upto_region 3 with fail
        refine wp_region_held_drew (S := (fun w' => w'.cell? ⟨pb, po, none⟩ = some (.int .i64 x0) ∧ w'.cell? ⟨pb, po + 1, none⟩ = some (.int .u64 (x1 : Int)) ∧ w'.cell? ⟨qb, qo, none⟩ = some (.int .i64 y0) ∧ w'.cell? ⟨qb, qo + 1, none⟩ = some (.int .u64 (y1 : Int)))) (by kernel_rfl) ⟨c0, c1, d0, d1⟩ (fun hH0 => ?_)
        refine wpAnyH_take (i := 0) (oi := { dst := some 23, op := Op.move (Operand.tmp 2), type := 67, pos := "chunk.go:210", after := #[], guard := none }) (v := ?_) rfl (by kernel_rfl) (by kernel_rfl) (by kernel_rfl) (fun _ _ _ h => h) (Or.inl ⟨by rfl, ?_⟩) hH0 ?_
        rotate_left
        · intro w' hw'
          obtain ⟨c0, c1, d0, d1⟩ := hw'
          go_simp
          try with_reducible rfl
        try simp only [Act.put, List.setIfInBounds_toArray, List.set_cons_zero, List.set_cons_succ]
        refine wpAnyH_take (i := 1) (oi := { dst := some 24, op := Op.move (Operand.tmp 0), type := 26, pos := "chunk.go:210", after := #[], guard := none }) (v := ?_) rfl (by kernel_rfl) (by kernel_rfl) (by kernel_rfl) (fun _ _ _ h => h) (Or.inl ⟨by rfl, ?_⟩) hH0 ?_
        rotate_left
        · intro w' hw'
          obtain ⟨c0, c1, d0, d1⟩ := hw'
          go_simp
          try with_reducible rfl
        try simp only [Act.put, List.setIfInBounds_toArray, List.set_cons_zero, List.set_cons_succ]
        refine wpAnyH_take (i := 2) (oi := { dst := some 25, op := Op.indexAddr 26 (Operand.tmp 24) (Operand.const (Value.int IntKind.i64 0)), type := 0, pos := "chunk.go:210", after := #[{ on := 1, ground := Ground.data }], guard := none }) (v := ?_) rfl (by kernel_rfl) (by kernel_rfl) (by kernel_rfl) (fun _ _ _ h => h) (Or.inl ⟨by rfl, ?_⟩) hH0 ?_
        rotate_left
        · intro w' hw'
          obtain ⟨c0, c1, d0, d1⟩ := hw'
          go_simp
          try with_reducible rfl
        try simp only [Act.put, List.setIfInBounds_toArray, List.set_cons_zero, List.set_cons_succ]
        refine wpAnyH_take (i := 3) (oi := { dst := some 26, op := Op.load 50 (Operand.tmp 25), type := 50, pos := "chunk.go:210", after := #[{ on := 2, ground := Ground.data }], guard := none }) (v := ?_) rfl (by kernel_rfl) (by kernel_rfl) (by kernel_rfl) (fun _ _ _ h => h) (Or.inl ⟨by rfl, ?_⟩) hH0 ?_
        rotate_left
        · intro w' hw'
          obtain ⟨c0, c1, d0, d1⟩ := hw'
          go_simp
          try with_reducible rfl
        try simp only [Act.put, List.setIfInBounds_toArray, List.set_cons_zero, List.set_cons_succ]
        refine wpAnyH_take (i := 4) (oi := { dst := some 27, op := Op.move (Operand.tmp 1), type := 26, pos := "chunk.go:210", after := #[], guard := none }) (v := ?_) rfl (by kernel_rfl) (by kernel_rfl) (by kernel_rfl) (fun _ _ _ h => h) (Or.inl ⟨by rfl, ?_⟩) hH0 ?_
        rotate_left
        · intro w' hw'
          obtain ⟨c0, c1, d0, d1⟩ := hw'
          go_simp
          try with_reducible rfl
        try simp only [Act.put, List.setIfInBounds_toArray, List.set_cons_zero, List.set_cons_succ]
        refine wpAnyH_take (i := 5) (oi := { dst := some 28, op := Op.indexAddr 26 (Operand.tmp 27) (Operand.const (Value.int IntKind.i64 0)), type := 0, pos := "chunk.go:210", after := #[{ on := 4, ground := Ground.data }], guard := none }) (v := ?_) rfl (by kernel_rfl) (by kernel_rfl) (by kernel_rfl) (fun _ _ _ h => h) (Or.inl ⟨by rfl, ?_⟩) hH0 ?_
        rotate_left
        · intro w' hw'
          obtain ⟨c0, c1, d0, d1⟩ := hw'
          go_simp
          try with_reducible rfl
        try simp only [Act.put, List.setIfInBounds_toArray, List.set_cons_zero, List.set_cons_succ]
        refine wpAnyH_take (i := 6) (oi := { dst := some 29, op := Op.load 50 (Operand.tmp 28), type := 50, pos := "chunk.go:210", after := #[{ on := 5, ground := Ground.data }], guard := none }) (v := ?_) rfl (by kernel_rfl) (by kernel_rfl) (by kernel_rfl) (fun _ _ _ h => h) (Or.inl ⟨by rfl, ?_⟩) hH0 ?_
        rotate_left
        · intro w' hw'
          obtain ⟨c0, c1, d0, d1⟩ := hw'
          go_simp
          try with_reducible rfl
        try simp only [Act.put, List.setIfInBounds_toArray, List.set_cons_zero, List.set_cons_succ]
        refine wpAnyH_ready (rs := [7]) (by kernel_rfl) (by simp) ?_
        refine AllReadyH.cons (o := { dst := some 30, op := Op.call { callee := Callee.value (Operand.tmp 23), args := #[Operand.tmp 26, Operand.tmp 29], argTypes := #[50, 50] }, type := 3, pos := "chunk.go:210", after := #[{ on := 0, ground := Ground.data }, { on := 3, ground := Ground.data }, { on := 6, ground := Ground.data }], guard := none }) rfl (fun K hK => ?_) AllReadyH.nil
        go_simp
        refine (BT.out _).mono ?_
        rintro e w3 ⟨rfl, b3⟩
        have I3 := hide (hI.out.keep ((Below.refl _ wr).drew.trans b3))
        have cc : w3.cell? ⟨pb, po, none⟩ = some (.int .i64 x0) ∧ w3.cell? ⟨pb, po + 1, none⟩ = some (.int .u64 (x1 : Int)) ∧ w3.cell? ⟨qb, qo, none⟩ = some (.int .i64 y0) ∧ w3.cell? ⟨qb, qo + 1, none⟩ = some (.int .u64 (y1 : Int)) := ⟨(I3.out.bel.cell (p := ⟨pb, po, none⟩) hpb).trans pc0, (I3.out.bel.cell (p := ⟨pb, po + 1, none⟩) hpb).trans pc1, (I3.out.bel.cell (p := ⟨qb, qo, none⟩) hqb).trans qc0, (I3.out.bel.cell (p := ⟨qb, qo + 1, none⟩) hqb).trans qc1⟩
        clear b3 BT hI
        refine hK.out _ _ cc (fun hH1 => ?_)
        clear hK
        try simp only [Act.put, List.setIfInBounds_toArray, List.set_cons_zero, List.set_cons_succ]
        refine wpAnyH_take (i := 8) (oi := { dst := some 8, op := Op.assign (Operand.tmp 30), type := 3, pos := "chunk.go:210", after := #[{ on := 7, ground := Ground.data }, { on := 7, ground := Ground.chain }, { on := 0, ground := Ground.phase }, { on := 1, ground := Ground.phase }, { on := 2, ground := Ground.phase }, { on := 3, ground := Ground.phase }, { on := 4, ground := Ground.phase }, { on := 5, ground := Ground.phase }, { on := 6, ground := Ground.phase }, { on := 7, ground := Ground.phase }], guard := none }) (v := ?_) rfl (by kernel_rfl) (by kernel_rfl) (by kernel_rfl) (fun _ _ _ h => h) (Or.inl ⟨by rfl, ?_⟩) hH1 ?_
        rotate_left
        · intro w' hw'
          obtain ⟨c0, c1, d0, d1⟩ := hw'
          go_simp
          try with_reducible rfl
        try simp only [Act.put, List.setIfInBounds_toArray, List.set_cons_zero, List.set_cons_succ]
        refine wpAnyH_done (by kernel_rfl) ?_ _
        go_upto_region 4 with fail
        obtain ⟨c0, c1, d0, d1⟩ := cc
        clear pc0 pc1 qc0 qc1
        have j3 : (1 : Int) ≤ (la : Int) := by omega
        have j4 : (la : Int) ≤ (ca : Int) := by omega
        have j5 : (1 : Int) ≤ (ca : Int) := by omega
        have I5 := hide (I3.out.skip hxy.out)
        clear c0 c1 d0 d1
        go_wp2_with fail
        generalize (if ca = 1 then some (⟨pb, po, none⟩ : Addr) else some ⟨pb, po + 2, none⟩) = ad4 at *
        go_roundw
        case rel => exact ⟨A', (y0, y1) :: B', L, ad4, la - 1, ca - 1, some ⟨qb, qo, none⟩, lb, cb, ao, k, co, rfl, rfl, rfl, I5⟩
        case measure => simp [slLen]; omega
      · have BT : ∀ wx, Calls Tryd.prog 27 #[.agg #[.int .i64 x0, .int .u64 (x1 : Int)], .agg #[.int .i64 y0, .int .u64 (y1 : Int)]] wx fun e w' => e = .returned (.int .i64 (1)) ∧ Below wx.heap.size wx w' := fun wx => by
          have := byTime_any x0 x1 y0 y1 wx
          rwa [show cmpI x0 y0 = 1 by unfold cmpI; rw [if_neg (by omega), if_pos hxy]] at this
        replace BT := hide BT
        replace hxy := hide hxy
        go_upto_region 3 with fail
        refine wp_region_held_drew (S := (fun w' => w'.cell? ⟨pb, po, none⟩ = some (.int .i64 x0) ∧ w'.cell? ⟨pb, po + 1, none⟩ = some (.int .u64 (x1 : Int)) ∧ w'.cell? ⟨qb, qo, none⟩ = some (.int .i64 y0) ∧ w'.cell? ⟨qb, qo + 1, none⟩ = some (.int .u64 (y1 : Int)))) (by kernel_rfl) ⟨c0, c1, d0, d1⟩ (fun hH0 => ?_)
        refine wpAnyH_take (i := 0) (oi := { dst := some 23, op := Op.move (Operand.tmp 2), type := 67, pos := "chunk.go:210", after := #[], guard := none }) (v := ?_) rfl (by kernel_rfl) (by kernel_rfl) (by kernel_rfl) (fun _ _ _ h => h) (Or.inl ⟨by rfl, ?_⟩) hH0 ?_
        rotate_left
        · intro w' hw'
          obtain ⟨c0, c1, d0, d1⟩ := hw'
          go_simp
          try with_reducible rfl
        try simp only [Act.put, List.setIfInBounds_toArray, List.set_cons_zero, List.set_cons_succ]
        refine wpAnyH_take (i := 1) (oi := { dst := some 24, op := Op.move (Operand.tmp 0), type := 26, pos := "chunk.go:210", after := #[], guard := none }) (v := ?_) rfl (by kernel_rfl) (by kernel_rfl) (by kernel_rfl) (fun _ _ _ h => h) (Or.inl ⟨by rfl, ?_⟩) hH0 ?_
        rotate_left
        · intro w' hw'
          obtain ⟨c0, c1, d0, d1⟩ := hw'
          go_simp
          try with_reducible rfl
        try simp only [Act.put, List.setIfInBounds_toArray, List.set_cons_zero, List.set_cons_succ]
        refine wpAnyH_take (i := 2) (oi := { dst := some 25, op := Op.indexAddr 26 (Operand.tmp 24) (Operand.const (Value.int IntKind.i64 0)), type := 0, pos := "chunk.go:210", after := #[{ on := 1, ground := Ground.data }], guard := none }) (v := ?_) rfl (by kernel_rfl) (by kernel_rfl) (by kernel_rfl) (fun _ _ _ h => h) (Or.inl ⟨by rfl, ?_⟩) hH0 ?_
        rotate_left
        · intro w' hw'
          obtain ⟨c0, c1, d0, d1⟩ := hw'
          go_simp
          try with_reducible rfl
        try simp only [Act.put, List.setIfInBounds_toArray, List.set_cons_zero, List.set_cons_succ]
        refine wpAnyH_take (i := 3) (oi := { dst := some 26, op := Op.load 50 (Operand.tmp 25), type := 50, pos := "chunk.go:210", after := #[{ on := 2, ground := Ground.data }], guard := none }) (v := ?_) rfl (by kernel_rfl) (by kernel_rfl) (by kernel_rfl) (fun _ _ _ h => h) (Or.inl ⟨by rfl, ?_⟩) hH0 ?_
        rotate_left
        · intro w' hw'
          obtain ⟨c0, c1, d0, d1⟩ := hw'
          go_simp
          try with_reducible rfl
        try simp only [Act.put, List.setIfInBounds_toArray, List.set_cons_zero, List.set_cons_succ]
        refine wpAnyH_take (i := 4) (oi := { dst := some 27, op := Op.move (Operand.tmp 1), type := 26, pos := "chunk.go:210", after := #[], guard := none }) (v := ?_) rfl (by kernel_rfl) (by kernel_rfl) (by kernel_rfl) (fun _ _ _ h => h) (Or.inl ⟨by rfl, ?_⟩) hH0 ?_
        rotate_left
        · intro w' hw'
          obtain ⟨c0, c1, d0, d1⟩ := hw'
          go_simp
          try with_reducible rfl
        try simp only [Act.put, List.setIfInBounds_toArray, List.set_cons_zero, List.set_cons_succ]
        refine wpAnyH_take (i := 5) (oi := { dst := some 28, op := Op.indexAddr 26 (Operand.tmp 27) (Operand.const (Value.int IntKind.i64 0)), type := 0, pos := "chunk.go:210", after := #[{ on := 4, ground := Ground.data }], guard := none }) (v := ?_) rfl (by kernel_rfl) (by kernel_rfl) (by kernel_rfl) (fun _ _ _ h => h) (Or.inl ⟨by rfl, ?_⟩) hH0 ?_
        rotate_left
        · intro w' hw'
          obtain ⟨c0, c1, d0, d1⟩ := hw'
          go_simp
          try with_reducible rfl
        try simp only [Act.put, List.setIfInBounds_toArray, List.set_cons_zero, List.set_cons_succ]
        refine wpAnyH_take (i := 6) (oi := { dst := some 29, op := Op.load 50 (Operand.tmp 28), type := 50, pos := "chunk.go:210", after := #[{ on := 5, ground := Ground.data }], guard := none }) (v := ?_) rfl (by kernel_rfl) (by kernel_rfl) (by kernel_rfl) (fun _ _ _ h => h) (Or.inl ⟨by rfl, ?_⟩) hH0 ?_
        rotate_left
        · intro w' hw'
          obtain ⟨c0, c1, d0, d1⟩ := hw'
          go_simp
          try with_reducible rfl
        try simp only [Act.put, List.setIfInBounds_toArray, List.set_cons_zero, List.set_cons_succ]
        refine wpAnyH_ready (rs := [7]) (by kernel_rfl) (by simp) ?_
        refine AllReadyH.cons (o := { dst := some 30, op := Op.call { callee := Callee.value (Operand.tmp 23), args := #[Operand.tmp 26, Operand.tmp 29], argTypes := #[50, 50] }, type := 3, pos := "chunk.go:210", after := #[{ on := 0, ground := Ground.data }, { on := 3, ground := Ground.data }, { on := 6, ground := Ground.data }], guard := none }) rfl (fun K hK => ?_) AllReadyH.nil
        go_simp
        refine (BT.out _).mono ?_
        rintro e w3 ⟨rfl, b3⟩
        have I3 := hide (hI.out.keep ((Below.refl _ wr).drew.trans b3))
        have cc : w3.cell? ⟨pb, po, none⟩ = some (.int .i64 x0) ∧ w3.cell? ⟨pb, po + 1, none⟩ = some (.int .u64 (x1 : Int)) ∧ w3.cell? ⟨qb, qo, none⟩ = some (.int .i64 y0) ∧ w3.cell? ⟨qb, qo + 1, none⟩ = some (.int .u64 (y1 : Int)) := ⟨(I3.out.bel.cell (p := ⟨pb, po, none⟩) hpb).trans pc0, (I3.out.bel.cell (p := ⟨pb, po + 1, none⟩) hpb).trans pc1, (I3.out.bel.cell (p := ⟨qb, qo, none⟩) hqb).trans qc0, (I3.out.bel.cell (p := ⟨qb, qo + 1, none⟩) hqb).trans qc1⟩
        clear b3 BT hI
        refine hK.out _ _ cc (fun hH1 => ?_)
        clear hK
        try simp only [Act.put, List.setIfInBounds_toArray, List.set_cons_zero, List.set_cons_succ]
        refine wpAnyH_take (i := 8) (oi := { dst := some 8, op := Op.assign (Operand.tmp 30), type := 3, pos := "chunk.go:210", after := #[{ on := 7, ground := Ground.data }, { on := 7, ground := Ground.chain }, { on := 0, ground := Ground.phase }, { on := 1, ground := Ground.phase }, { on := 2, ground := Ground.phase }, { on := 3, ground := Ground.phase }, { on := 4, ground := Ground.phase }, { on := 5, ground := Ground.phase }, { on := 6, ground := Ground.phase }, { on := 7, ground := Ground.phase }], guard := none }) (v := ?_) rfl (by kernel_rfl) (by kernel_rfl) (by kernel_rfl) (fun _ _ _ h => h) (Or.inl ⟨by rfl, ?_⟩) hH1 ?_
        rotate_left
        · intro w' hw'
          obtain ⟨c0, c1, d0, d1⟩ := hw'
          go_simp
          try with_reducible rfl
        try simp only [Act.put, List.setIfInBounds_toArray, List.set_cons_zero, List.set_cons_succ]
        refine wpAnyH_done (by kernel_rfl) ?_ _
        go_upto_region 8 with fail
        obtain ⟨c0, c1, d0, d1⟩ := cc
        clear pc0 pc1 qc0 qc1
        have j3 : (1 : Int) ≤ (lb : Int) := by omega
        have j4 : (lb : Int) ≤ (cb : Int) := by omega
        have j5 : (1 : Int) ≤ (cb : Int) := by omega
        have OO : Hid ((w3.alloc (.cells #[.int .i64 y0, .int .u64 (y1 : Int)] 50)).drew.ownsRow w.heap.size 50 2 (.slice ao k co) k (flat L)) := (I3.out.own.alloc _).drew
        have HH : Hid (HasS (w3.alloc (.cells #[.int .i64 y0, .int .u64 (y1 : Int)] 50)).drew (some ⟨w3.heap.size, 0, none⟩) 1 1 [(y0, y1)]) := (hasS_one w3 y0 y1 hy64).kept (Below.refl _ _).drew (Nat.le_refl _)
        have bb : Hid (w.heap.size ≤ (w3.alloc (.cells #[.int .i64 y0, .int .u64 (y1 : Int)] 50)).drew.heap.size) := by have := I3.out.bel.size; show w.heap.size ≤ (w3.alloc _).heap.size; simp; omega
        have c2 := hide (((Below.refl _ w3).alloc (Nat.le_refl _) (.cells #[.int .i64 y0, .int .u64 (y1 : Int)] 50)).drew)
        have c3 := hide (Nat.lt_of_lt_of_le hpb I3.out.bel.size)
        have c4 := hide (Nat.lt_of_lt_of_le hqb I3.out.bel.size)
        refine wp_region_held_drew (S := (fun w' => w'.cell? ⟨pb, po, none⟩ = some (.int .i64 x0) ∧ w'.cell? ⟨pb, po + 1, none⟩ = some (.int .u64 (x1 : Int)) ∧ w'.cell? ⟨qb, qo, none⟩ = some (.int .i64 y0) ∧ w'.cell? ⟨qb, qo + 1, none⟩ = some (.int .u64 (y1 : Int)))) (by kernel_rfl) ⟨c0, c1, d0, d1⟩ (fun hH0 => ?_)
        refine wpAnyH_take (i := 0) (oi := { dst := some 47, op := Op.move (Operand.tmp 7), type := 26, pos := "chunk.go:214", after := #[], guard := none }) (v := ?_) rfl (by kernel_rfl) (by kernel_rfl) (by kernel_rfl) (fun _ _ _ h => h) (Or.inl ⟨by rfl, ?_⟩) hH0 ?_
        rotate_left
        · intro w' hw'
          obtain ⟨c0, c1, d0, d1⟩ := hw'
          go_simp
          try with_reducible rfl
        try simp only [Act.put, List.setIfInBounds_toArray, List.set_cons_zero, List.set_cons_succ]
        refine wpAnyH_take (i := 1) (oi := { dst := some 48, op := Op.move (Operand.tmp 1), type := 26, pos := "chunk.go:214", after := #[], guard := none }) (v := ?_) rfl (by kernel_rfl) (by kernel_rfl) (by kernel_rfl) (fun _ _ _ h => h) (Or.inl ⟨by rfl, ?_⟩) hH0 ?_
        rotate_left
        · intro w' hw'
          obtain ⟨c0, c1, d0, d1⟩ := hw'
          go_simp
          try with_reducible rfl
        try simp only [Act.put, List.setIfInBounds_toArray, List.set_cons_zero, List.set_cons_succ]
        refine wpAnyH_take (i := 2) (oi := { dst := some 49, op := Op.indexAddr 26 (Operand.tmp 48) (Operand.const (Value.int IntKind.i64 0)), type := 0, pos := "chunk.go:214", after := #[{ on := 1, ground := Ground.data }], guard := none }) (v := ?_) rfl (by kernel_rfl) (by kernel_rfl) (by kernel_rfl) (fun _ _ _ h => h) (Or.inl ⟨by rfl, ?_⟩) hH0 ?_
        rotate_left
        · intro w' hw'
          obtain ⟨c0, c1, d0, d1⟩ := hw'
          go_simp
          try with_reducible rfl
        try simp only [Act.put, List.setIfInBounds_toArray, List.set_cons_zero, List.set_cons_succ]
        refine wpAnyH_take (i := 3) (oi := { dst := some 50, op := Op.load 50 (Operand.tmp 49), type := 50, pos := "chunk.go:214", after := #[{ on := 2, ground := Ground.data }], guard := none }) (v := ?_) rfl (by kernel_rfl) (by kernel_rfl) (by kernel_rfl) (fun _ _ _ h => h) (Or.inl ⟨by rfl, ?_⟩) hH0 ?_
        rotate_left
        · intro w' hw'
          obtain ⟨c0, c1, d0, d1⟩ := hw'
          go_simp
          try with_reducible rfl
        try simp only [Act.put, List.setIfInBounds_toArray, List.set_cons_zero, List.set_cons_succ]
        refine wpAnyH_take (i := 6) (oi := { dst := some 53, op := Op.move (Operand.tmp 1), type := 26, pos := "chunk.go:214", after := #[], guard := none }) (v := ?_) rfl (by kernel_rfl) (by kernel_rfl) (by kernel_rfl) (fun _ _ _ h => h) (Or.inl ⟨by rfl, ?_⟩) hH0 ?_
        rotate_left
        · intro w' hw'
          obtain ⟨c0, c1, d0, d1⟩ := hw'
          go_simp
          try with_reducible rfl
        try simp only [Act.put, List.setIfInBounds_toArray, List.set_cons_zero, List.set_cons_succ]
        refine wpAnyH_take (i := 7) (oi := { dst := some 54, op := Op.slice 26 (Operand.tmp 53) (some (Operand.const (Value.int IntKind.i64 1))) none none, type := 26, pos := "chunk.go:214", after := #[{ on := 6, ground := Ground.data }], guard := none }) (v := ?_) rfl (by kernel_rfl) (by kernel_rfl) (by kernel_rfl) (fun _ _ _ h => h) (Or.inl ⟨by rfl, ?_⟩) hH0 ?_
        rotate_left
        · intro w' hw'
          obtain ⟨c0, c1, d0, d1⟩ := hw'
          go_simp
          try with_reducible rfl
        try simp only [Act.put, List.setIfInBounds_toArray, List.set_cons_zero, List.set_cons_succ]
        refine wpAnyH_ready (rs := [4]) (by kernel_rfl) (by simp) ?_
        refine AllReadyH.cons (o := { dst := some 51, op := Op.buildSlice 26 1 #[(0, Operand.tmp 50)], type := 26, pos := "chunk.go:214", after := #[{ on := 3, ground := Ground.data }], guard := none }) rfl (fun K hK => ?_) AllReadyH.nil
        go_simp
        refine hK.out _ _ ⟨(c2.out.cell (p := ⟨pb, po, none⟩) c3.out).trans c0, (c2.out.cell (p := ⟨pb, po + 1, none⟩) c3.out).trans c1, (c2.out.cell (p := ⟨qb, qo, none⟩) c4.out).trans d0, (c2.out.cell (p := ⟨qb, qo + 1, none⟩) c4.out).trans d1⟩ (fun hH1 => ?_)
        clear hK
        try simp only [Act.put, List.setIfInBounds_toArray, List.set_cons_zero, List.set_cons_succ]
        refine wpAnyH_ready (rs := [5]) (by kernel_rfl) (by simp) ?_
        refine AllReadyH.cons (o := { dst := some 52, op := Op.call { callee := Callee.builtin Builtin.append, args := #[Operand.tmp 47, Operand.tmp 51], argTypes := #[26, 26] }, type := 26, pos := "chunk.go:214", after := #[{ on := 0, ground := Ground.data }, { on := 4, ground := Ground.data }], guard := none }) rfl (fun K hK => ?_) AllReadyH.nil
        refine step_appS rfl (.tmp 47) (.tmp 51) rfl w.heap.size _ k L rfl OO.out _ 1 1 [(y0, y1)] rfl HH.out (by omega) bb.out ?_
        intro v5 w5 O5 G5
        obtain ⟨a5, c5, e5, I5⟩ := I3.out.snd hxy.out O5 G5
        subst e5
        replace I5 := hide I5
        have hcell : ∀ (q : Addr), q.block < w.heap.size → w5.cell? q = w3.cell? q := fun q hq => (I5.out.bel.cell (p := q) hq).trans (I3.out.bel.cell (p := q) hq).symm
        refine hK.out _ _ ⟨(hcell ⟨pb, po, none⟩ hpb).trans c0, (hcell ⟨pb, po + 1, none⟩ hpb).trans c1, (hcell ⟨qb, qo, none⟩ hqb).trans d0, (hcell ⟨qb, qo + 1, none⟩ hqb).trans d1⟩ (fun hH2 => ?_)
        clear hK
        try simp only [Act.put, List.setIfInBounds_toArray, List.set_cons_zero, List.set_cons_succ]
        refine wpAnyH_take (i := 8) (oi := { dst := some 7, op := Op.assign (Operand.tmp 52), type := 26, pos := "chunk.go:214", after := #[{ on := 5, ground := Ground.data }, { on := 5, ground := Ground.chain }, { on := 0, ground := Ground.phase }, { on := 1, ground := Ground.phase }, { on := 2, ground := Ground.phase }, { on := 3, ground := Ground.phase }, { on := 4, ground := Ground.phase }, { on := 5, ground := Ground.phase }, { on := 6, ground := Ground.textOnly Departure.lateStores }, { on := 7, ground := Ground.textOnly Departure.lateStoresUnsure }], guard := none }) (v := ?_) rfl (by kernel_rfl) (by kernel_rfl) (by kernel_rfl) (fun _ _ _ h => h) (Or.inl ⟨by rfl, ?_⟩) hH2 ?_
        rotate_left
        · intro w' hw'
          obtain ⟨c0, c1, d0, d1⟩ := hw'
          go_simp
          try with_reducible rfl
        try simp only [Act.put, List.setIfInBounds_toArray, List.set_cons_zero, List.set_cons_succ]
        refine wpAnyH_take (i := 9) (oi := { dst := some 1, op := Op.assign (Operand.tmp 54), type := 26, pos := "chunk.go:214", after := #[{ on := 7, ground := Ground.data }, { on := 8, ground := Ground.chain }, { on := 0, ground := Ground.phase }, { on := 1, ground := Ground.phase }, { on := 2, ground := Ground.phase }, { on := 3, ground := Ground.phase }, { on := 4, ground := Ground.phase }, { on := 5, ground := Ground.phase }, { on := 6, ground := Ground.phase }, { on := 7, ground := Ground.phase }, { on := 8, ground := Ground.phase }], guard := none }) (v := ?_) rfl (by kernel_rfl) (by kernel_rfl) (by kernel_rfl) (fun _ _ _ h => h) (Or.inl ⟨by rfl, ?_⟩) hH2 ?_
        rotate_left
        · intro w' hw'
          obtain ⟨c0, c1, d0, d1⟩ := hw'
          go_simp
          try with_reducible rfl
        try simp only [Act.put, List.setIfInBounds_toArray, List.set_cons_zero, List.set_cons_succ]
        refine wpAnyH_done (by kernel_rfl) ?_ _
        clear O5 G5 I3 OO HH bb c2 c3 c4 hcell c0 c1 d0 d1
        generalize (if cb = 1 then some (⟨qb, qo, none⟩ : Addr) else some ⟨qb, qo + 2, none⟩) = ad4 at *
        go_wp2_with fail
        go_roundw
        case rel => exact ⟨(x0, x1) :: A', B', L ++ [(y0, y1)], some ⟨pb, po, none⟩, la, ca, ad4, lb - 1, cb - 1, a5, k + 1, c5, rfl, rfl, rfl, I5⟩
        case measure => simp [slLen]; omega
    · have h0 : la = 0 ∨ lb = 0 := by omega
      have HA := hide (hI.out.hA.kept hI.out.bel (Nat.le_refl _))
      have hsz2 := hI.out.sz
      have fin := hide (fun w2 v2 w3 v3 => hI.out.ends h0 (w2 := w2) (w3 := w3) (v2 := v2) (v3 := v3))
      have hbs := hide hI.out.bel.size
      have HB := hide (fun w2 v2 (O2 : w2.ownsRow w.heap.size 50 2 v2 (k + la) (flat (L ++ A))) (G2 : wr.grownBy w2 (Value.slice ao k co).ownBlock) => And.intro (hI.out.hB.kept (hI.out.bel.grown G2 hI.out.bel.size (fun q e => (hI.out.own.lt q e).1)) (Nat.le_refl _)) (hI.out.bel.grown G2 hI.out.bel.size (fun q e => (hI.out.own.lt q e).1)).size)
      have OO := hide hI.out.own
      have arm : True := trivial
      by_cases hla : la = 0
      · subst hla
        go_wp2_with (at_builtin; first | (refine wpList_appS rfl (.tmp 55) (.tmp 56) rfl w.heap.size _ k L rfl OO.out _ _ _ A rfl HA.out (by omega) hbs.out ?_; intro v2 w2 O2 G2; obtain ⟨HB2, hs2⟩ := HB.out w2 v2 O2 G2; replace HB2 := hide HB2; replace hs2 := hide hs2; have fin2 := hide (fun w3 v3 => fin.out w2 v2 w3 v3 O2 G2); replace O2 := hide O2; clear HB fin OO HA G2 hbs) | (refine wpList_appS rfl (.tmp 57) (.tmp 58) rfl w.heap.size _ _ _ rfl O2.out _ _ _ B rfl HB2.out (by omega) hs2.out ?_; intro v3 w3 O3 G3; have fin3 := hide (fin2.out w3 v3 O3 G3 hvb.out); clear O3 G3 fin2 HB2 O2))
        go_ret
        exact fin3.out
      · obtain rfl : lb = 0 := by omega
        have j1 : (0 : Int) < (la : Int) := by omega
        go_wp2_with (at_builtin; first | (refine wpList_appS rfl (.tmp 55) (.tmp 56) rfl w.heap.size _ k L rfl OO.out _ _ _ A rfl HA.out (by omega) hbs.out ?_; intro v2 w2 O2 G2; obtain ⟨HB2, hs2⟩ := HB.out w2 v2 O2 G2; replace HB2 := hide HB2; replace hs2 := hide hs2; have fin2 := hide (fun w3 v3 => fin.out w2 v2 w3 v3 O2 G2); replace O2 := hide O2; clear HB fin OO HA G2 hbs) | (refine wpList_appS rfl (.tmp 57) (.tmp 58) rfl w.heap.size _ _ _ rfl O2.out _ _ _ B rfl HB2.out (by omega) hs2.out ?_; intro v3 w3 O3 G3; have fin3 := hide (fin2.out w3 v3 O3 G3 hvb.out); clear O3 G3 fin2 HB2 O2))
        go_ret
        exact fin3.out
theorem merge_any (w : World) (a : Option Addr) (la0 ca0 : Nat) (A0 : List Smp) (h : HasS w a la0 ca0 A0) (b : Option Addr) (lb0 cb0 : Nat) (B0 : List Smp) (h' : HasS w b lb0 cb0 B0) (hsz : la0 + lb0 ≤ 1099511627776) :
    Calls Tryd.prog 15 #[.slice a la0 ca0, .slice b lb0 cb0] w (Smps w (mrg A0 B0)) := by
  have M := hide (merged_any w a la0 ca0 A0 h b lb0 cb0 B0 h' hsz)
  clear h h'
  go_enter Tryd.func15, Tryd.ntmps15
  go_wp2_with fail
  refine M.out.mono ?_
  rintro e w1 ⟨a1, c1, rfl, H1, B1, O1⟩
  have fin : Hid (Smps w (mrg A0 B0) (.returned (.slice a1 (mrg A0 B0).length c1)) w1) := (⟨a1, c1, rfl, H1, B1, O1⟩ : Smps w (mrg A0 B0) _ w1)
  clear M H1 B1 O1
  go_wp2_with fail
  go_ret
  exact fin.out
end Go.Proofs.YtmjjedbdedemcaaDoor
