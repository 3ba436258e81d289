/-
  The walk of look, where what is told fits: held against the one sector that says it.
-/
import Derived.Test.YtbaclihlckfndaaDoorH
import Derived.Deep.RegionHeldLaw
namespace Go.Proofs.YtbaclihlckfndaaDoor
open Go.RowKit
set_option linter.unusedVariables false

theorem Has.range {w : World} {b off len cap : Nat} {l : List Int} (h : Has w (some ⟨b, off, none⟩) len cap l) : w.rangeAt b off (l.map (Value.int .u8)) := by
  intro j v hv
  have hj : j < l.length := by
    rcases Nat.lt_or_ge j l.length with h | h
    · exact h
    · rw [List.getElem?_eq_none (by simpa using h)] at hv; cases hv
  obtain ⟨b', off', e1, e2, e3⟩ := h.cells (by have := h.hlen; omega)
  cases e1
  rw [e3 j (by have := h.hlen; omega)]
  rw [List.getElem?_map, List.getElem?_eq_getElem hj] at hv
  simp only [Option.map_some, Option.some.injEq] at hv
  subst hv
  simp [List.getD, List.getElem?_eq_getElem hj]
theorem below_drews {B : Nat} {w w' : World} (h : Below B w w') : Below B w w'.drew := ⟨h.os, h.tape, h.output, h.size, h.block⟩

theorem run_arrayAt (b off cap : Nat) (w : World) : (Instr.arrayAt 55 (.slice (some ⟨b, off, none⟩) 256 cap)).run Tryd.prog w = .ok (.pointer (some ⟨b, off, none⟩)) w := by
  unfold Instr.arrayAt
  simp [Sem.run_bind, run_underlying Tryd.underlying55, Result.andThen]

theorem guard55 : Tryd.prog.eqGuardType Tryd.prog.depth 55 = false := by kernel_rfl
theorem run_guard55 (A : List Int) (B : Array Value) (x y : Operand) (w : World) : (eqGuard .eql 55 x y (aval A) (.agg B)).run Tryd.prog w = .ok () w := run_eqGuard_agg _ _ _ _ _ _ _ guard55

set_option maxRecDepth 100000 in
set_option maxHeartbeats 3000000 in
theorem look_fits (w : World) (b off len cap : Nat) (l : List Int) (h : Has w (some ⟨b, off, none⟩) len cap l) (hs : 256 ≤ len) (hf : Fits l) (ht : Tab w) :
    Calls Tryd.prog 30 #[.slice (some ⟨b, off, none⟩) len cap] w (Looks w (some ⟨b, off, none⟩) len cap l) := by
  have hl := h.hlen
  have hle := h.le
  have hcap := h.capb
  unfold maxLen at hcap
  have i1 : (256 : Int) ≤ len := by omega
  have i2 : (len : Int) ≤ cap := by omega
  have i3 : (6 : Int) ≤ cap := by omega
  have i4 : (4 : Int) < cap := by omega
  have i5 : (6 : Int) < len := by omega
  have i6 : 4 < cap := by omega
  have i7 : 6 ≤ cap := by omega
  have i8 : cap ≠ 4 := by omega
  have i9 : cap ≠ 7 := by omega
  have k1 : (256 : Int) ≤ cap := by omega
  have k2 : (4 : Int) ≤ cap := by omega
  have k3 : (7 : Int) < cap := by omega
  have hj : Hid (∀ w' : World, w'.heap = (w.alloc (.cells #[.int .i64 0, .slice none 0 0, .int .i64 0] 53)).heap → Calls Tryd.prog 38 #[.slice (some ⟨b, off + 4, none⟩) 2 (cap - 4)] w' fun e w'' => e = .returned (.int .i64 (numK (l.drop 4) 2 : Nat)) ∧ w'' = w') := fun w' e => by
    have H := (h.kept ((Below.refl w.heap.size w).alloc (Nat.le_refl _) (.cells #[.int .i64 0, .slice none 0 0, .int .i64 0] 53)) (Nat.le_refl _)).piece 4 2 (by omega) (cap - 4) (by omega) (by unfold maxLen; omega)
    have := join_any w' _ 2 (cap - 4) _ (H.heap e) (by omega)
    rwa [numK_take _ _ _ (Nat.le_refl _)] at this
  have hj4 : Hid (∀ w' : World, Below w.heap.size w w' → Calls Tryd.prog 38 #[.slice (some ⟨b, off, none⟩) 4 cap] w' fun e w'' => e = .returned (.int .i64 (numK l 4 : Nat)) ∧ w'' = w') := fun w' B => by
    have := join_any w' _ 4 cap _ ((h.front 4 (by omega)).kept B (Nat.le_refl _)) (by omega)
    rwa [numK_take _ _ _ (Nat.le_refl _)] at this
  have c6 : (w.alloc (.cells #[.int .i64 0, .slice none 0 0, .int .i64 0] 53)).cell? ⟨b, off + 6, none⟩ = some (.int .u8 (l.getD 6 0)) := by
    obtain ⟨b', off', e1, e2, e3⟩ := (h.kept ((Below.refl w.heap.size w).alloc (Nat.le_refl _) (.cells #[.int .i64 0, .slice none 0 0, .int .i64 0] 53)) (Nat.le_refl _)).cells (by omega)
    cases e1
    exact e3 6 (by omega)
  have hb6 := getD_byt h.bytes 6 (by omega)
  have hN := numK_lt h.bytes 4 (by omega)
  have hmL : ((l.drop 7).take (numK (l.drop 4) 2)).length = numK (l.drop 4) 2 := by have := hf.1; simp; omega
  have hH : Hid (Has w (some ⟨b, off + 7, none⟩) (numK (l.drop 4) 2) (cap - 7) ((l.drop 7).take (numK (l.drop 4) 2))) := h.piece 7 _ (by have := hf.1; omega) (cap - 7) (by have := hf.1; omega) (by unfold maxLen; omega)
  have hHH : Hid (∀ w0, Has w0 (some ⟨b, off, none⟩) len cap l → Has w0 (some ⟨b, off + 7, none⟩) (numK (l.drop 4) 2) (cap - 7) ((l.drop 7).take (numK (l.drop 4) 2))) := fun w0 h0 => h0.piece 7 _ (by have := hf.1; omega) (cap - 7) (by have := hf.1; omega) (by unfold maxLen; omega)
  have hyes : Hid (sec (numK l 4) ((l.drop 7).take (numK (l.drop 4) 2)) (l.getD 6 0).toNat = l.take 256 → ∃ p : Says, Begins l p ∧ numK l 4 = p.number ∧ (l.getD 6 0).toNat = p.flags ∧ (l.drop 7).take (numK (l.drop 4) 2) = p.bytes) := fun e => by
    obtain ⟨p, hp⟩ := (begins_iff h.bytes).2 ⟨by omega, hf, e⟩
    have hc := begins_cand hp
    exact ⟨p, hp, by rw [hc]; rfl, by rw [hc]; rfl, by rw [hc]; rfl⟩
  have hno : Hid (¬ sec (numK l 4) ((l.drop 7).take (numK (l.drop 4) 2)) (l.getD 6 0).toNat = l.take 256 → ¬ ∃ p, Begins l p) := fun e hp => e ((begins_iff h.bytes).1 hp).2.2
  have hr := hide (h.front 256 (by omega)).range
  have hbl : b < w.heap.size := by obtain ⟨b', off', e1, e2, e3⟩ := h.cells (by omega); cases e1; exact e2
  have hB := hide (Byts.take h.bytes 256)
  have hBl : Hid ((l.take 256).length = 256) := by show _ = 256; simp; omega
  unfold Fits at hf
  generalize (l.drop 7).take (numK (l.drop 4) 2) = m at hmL hH hHH hyes hno
  generalize numK (l.drop 4) 2 = n at hj hf hmL hH hHH
  generalize numK l 4 = N at hj4 hN hyes hno
  generalize l.take 256 = cs at hyes hno hr hB hBl
  obtain ⟨fl, hfl⟩ : ∃ fl : Nat, l.getD 6 0 = (fl : Int) := ⟨(l.getD 6 0).toNat, by omega⟩
  rw [hfl] at c6 hb6 hf hyes hno
  simp only [Int.toNat_natCast] at hf hyes hno
  replace ht := hide ht
  clear hfl h
  have hA := hide (byts_sec (N := N) (fl := fl) hH.out.bytes (by omega))
  have hAl := hide (sec_len (N := N) (m := m) (fl := fl) (by omega))
  have hlay : Hid (∀ w' : World, Below w.heap.size w w' → Calls Tryd.prog 26 #[.agg #[.int .i64 (N : Int), .slice (some ⟨b, off + 7, none⟩) n (cap - 7), .int .i64 (fl : Int)]] w' fun e w'' => e = .returned (aval (sec N m fl)) ∧ Below w'.heap.size w' w'') := fun w' B =>
    lay_any w' N fl _ n (cap - 7) m (hH.out.kept B (Nat.le_refl _)) (by omega) (by omega) (by omega) (ht.out.kept B ht.out.pos)
  have heq : ∀ w', (binOp .eql 55 (aval (sec N m fl)) (.agg (cs.map (Value.int .u8)).toArray)).run Tryd.prog w' = .ok (.bool (decide (sec N m fl = cs))) w' := run_eql55 hA.out hB.out hAl.out hBl.out
  generalize sec N m fl = A at hyes hno hlay heq
  clear hA hAl hB
  have j1 : (n : Int) ≤ 244 := by omega
  have j3 : (fl : Int) ≤ 3 := by omega
  have j4 : 7 + (n : Int) ≤ cap := by omega
  have j5 : (0 : Int) ≤ n := by omega
  have j6 : (7 : Int) ≤ 7 + n := by omega
  have j7 : IntKind.i64.wrap (7 + (n : Int)) = 7 + (n : Int) := by rw [IntKind.wrap_i64]; omega
  have j8 : (7 + (n : Int)).toNat = 7 + n := by omega
  have j9 : 7 + n ≤ cap := by omega
  have j10 : 7 ≤ cap := by omega
  have j11 : 7 + n - 7 = n := by omega
  go_enter Tryd.func30, Tryd.ntmps30
  go_wp2_with fail
  go_quiet ((go_at_call 38; exact Calls.quiet_of_same (hj.out _ rfl)))
  have X : Hid (Box3 ((w.alloc (.cells #[.int .i64 0, .slice none 0 0, .int .i64 0] 53)).drewN nq) w.heap.size (.int .i64 0) (.slice none 0 0) (.int .i64 0)) := (box3_new w _ _ _ 53).drewsN nq
  have B : Hid (Below w.heap.size w ((w.alloc (.cells #[.int .i64 0, .slice none 0 0, .int .i64 0] 53)).drewN nq)) := below_drewsN ((Below.refl _ _).alloc (Nat.le_refl _) _) nq
  have fz : Hid (∀ j, ((w.alloc (.cells #[.int .i64 0, .slice none 0 0, .int .i64 0] 53)).drewN nq).frozen? ⟨w.heap.size, j, none⟩ = false) := fun j => frozen_of_row _ _ j #[.int .i64 0, .slice none 0 0, .int .i64 0] 53 (heap_alloc_new w _)
  have sz : ((w.alloc (.cells #[.int .i64 0, .slice none 0 0, .int .i64 0] 53)).drewN nq).heap.size = w.heap.size + 1 := by simp
  generalize (w.alloc (.cells #[.int .i64 0, .slice none 0 0, .int .i64 0] 53)).drewN nq = w1 at X B fz sz ⊢
  have Bd : Hid (Below w.heap.size w w1.drew) := below_drews B.out
  clear c6 hj
  rcases (show ¬ n < 244 ∨ (n < 244 ∧ 2 ≤ fl) by omega) with g3 | ⟨g3, g4⟩
  · have j2 : 244 ≤ (n : Int) := by omega
    go_wp2_with fail
    go_region_held3 (fun _ => True) (first | trivial) (first
      | (go_at_call 38; refine (hj4.out _ (by first | exact Bd.out | exact Bd.out.alloc Bd.out.size _)).mono ?_; rintro e w5 ⟨rfl, rfl⟩))
    all_goals exact (by
      have X2 : Hid (Box3 (w1.alloc (.cells #[.int .i64 (N : Int), .slice (some ⟨b, off + 7, none⟩) n (cap - 7), .int .i64 (fl : Int)] 53)).drew (w.heap.size + 1) (.int .i64 (N : Int)) (.slice (some ⟨b, off + 7, none⟩) n (cap - 7)) (.int .i64 (fl : Int))) := by rw [← sz]; exact box3_new w1 _ _ _ 53
      have B2 : Hid (Below (w.heap.size + 1) w1 (w1.alloc (.cells #[.int .i64 (N : Int), .slice (some ⟨b, off + 7, none⟩) n (cap - 7), .int .i64 (fl : Int)] 53)).drew) := below_drews ((Below.refl _ _).alloc (by omega) _)
      generalize (w1.alloc (.cells #[.int .i64 (N : Int), .slice (some ⟨b, off + 7, none⟩) n (cap - 7), .int .i64 (fl : Int)] 53)).drew = w2 at X2 B2 ⊢
      have T2 : Hid (Below w.heap.size w w2) := B.out.trans (B2.out.mono (by omega))
      have z2 : w.heap.size + 1 < w2.heap.size := World.block_lt_of_cell? w2 _ X2.out.1
      have x0 := X2.out.1
      have x1 := X2.out.2.1
      have x2 := X2.out.2.2
      have r2 : w2.rangeAt b off (cs.map (Value.int .u8)) := fun j v hv => (T2.out.cell (p := ⟨b, off + j, none⟩) hbl).trans (hr.out j v hv)
      have u55 := Tryd.underlying55
      have hi55 : (Tryd.prog.info? 55).map (·.size) = some (cs.map (Value.int .u8)).length := by rw [info55, List.length_map, hBl.out]
      have harr := run_arrayAt b off cap
      have hgd := run_guard55 A
      have hld : ∀ w' : World, w'.rangeAt b off (cs.map (Value.int .u8)) → (Instr.loadAt 55 (.pointer (some ⟨b, off, none⟩))).run Tryd.prog w' = .ok (.agg (cs.map (Value.int .u8)).toArray) w' := fun w' hw' => run_loadAt_mid w' b off 55 (cs.map (Value.int .u8)) _ hw' Tryd.underlying55 rfl hi55
      have KS : Hid (∀ (w' : World) (x y z : Value), (w'.cell? ⟨w.heap.size + 1, 0, none⟩ = some (.int .i64 (N : Int)) ∧ w'.cell? ⟨w.heap.size + 1, 1, none⟩ = some (.slice (some ⟨b, off + 7, none⟩) n (cap - 7)) ∧ w'.cell? ⟨w.heap.size + 1, 2, none⟩ = some (.int .i64 (fl : Int)) ∧ w'.rangeAt b off (cs.map (Value.int .u8))) →
          ((((w'.setCell ⟨w.heap.size, 0, none⟩ x).setCell ⟨w.heap.size, 1, none⟩ y).setCell ⟨w.heap.size, 2, none⟩ z).cell? ⟨w.heap.size + 1, 0, none⟩ = some (.int .i64 (N : Int)) ∧ (((w'.setCell ⟨w.heap.size, 0, none⟩ x).setCell ⟨w.heap.size, 1, none⟩ y).setCell ⟨w.heap.size, 2, none⟩ z).cell? ⟨w.heap.size + 1, 1, none⟩ = some (.slice (some ⟨b, off + 7, none⟩) n (cap - 7)) ∧ (((w'.setCell ⟨w.heap.size, 0, none⟩ x).setCell ⟨w.heap.size, 1, none⟩ y).setCell ⟨w.heap.size, 2, none⟩ z).cell? ⟨w.heap.size + 1, 2, none⟩ = some (.int .i64 (fl : Int)) ∧ (((w'.setCell ⟨w.heap.size, 0, none⟩ x).setCell ⟨w.heap.size, 1, none⟩ y).setCell ⟨w.heap.size, 2, none⟩ z).rangeAt b off (cs.map (Value.int .u8)))) := by
        intro w' x y z ⟨h1, h2, h3, h4⟩
        have far : ∀ (p : Addr), p.block ≠ w.heap.size → (((w'.setCell ⟨w.heap.size, 0, none⟩ x).setCell ⟨w.heap.size, 1, none⟩ y).setCell ⟨w.heap.size, 2, none⟩ z).cell? p = w'.cell? p := fun p hp => by
          rw [World.cell?_setCell_far _ _ _ _ (fun e => hp e.symm), World.cell?_setCell_far _ _ _ _ (fun e => hp e.symm), World.cell?_setCell_far _ _ _ _ (fun e => hp e.symm)]
        exact ⟨(far _ (by show _ + 1 ≠ _; omega)).trans h1, (far _ (by show _ + 1 ≠ _; omega)).trans h2, (far _ (by show _ + 1 ≠ _; omega)).trans h3, fun j v hv => (far ⟨b, off + j, none⟩ (by show b ≠ _; omega)).trans (h4 j v hv)⟩
      go_wp2_with fail
      refine wp_region_noPanic ?_
      refine wp_region_held_drew (S := (fun w' => w'.cell? ⟨w.heap.size + 1, 0, none⟩ = some (.int .i64 (N : Int)) ∧ w'.cell? ⟨w.heap.size + 1, 1, none⟩ = some (.slice (some ⟨b, off + 7, none⟩) n (cap - 7)) ∧ w'.cell? ⟨w.heap.size + 1, 2, none⟩ = some (.int .i64 (fl : Int)) ∧ w'.rangeAt b off (cs.map (Value.int .u8)))) (by kernel_rfl) ⟨x0, x1, x2, r2⟩ (fun hH0 => ?_)
      refine wpAnyH_take (i := 0) (oi := { dst := some 43, op := Op.load 53 (Operand.tmp 6), type := 53, pos := "frame.go:157", after := #[], guard := none }) (v := .agg #[.int .i64 (N : Int), .slice (some ⟨b, off + 7, none⟩) n (cap - 7), .int .i64 (fl : Int)]) rfl (by kernel_rfl) (by kernel_rfl) (by kernel_rfl) (fun _ _ _ h => h) (Or.inl ⟨by rfl, ?_⟩) hH0 ?_
      · intro w' ⟨s0, s1, s2, s3⟩
        have s4 := hld w' s3
        go_simp
      try simp only [Act.put, List.setIfInBounds_toArray, List.set_cons_zero, List.set_cons_succ]
      refine wpAnyH_take (i := 1) (oi := { dst := some 44, op := Op.load 53 (Operand.tmp 6), type := 53, pos := "frame.go:157", after := #[], guard := none }) (v := .agg #[.int .i64 (N : Int), .slice (some ⟨b, off + 7, none⟩) n (cap - 7), .int .i64 (fl : Int)]) rfl (by kernel_rfl) (by kernel_rfl) (by kernel_rfl) (fun _ _ _ h => h) (Or.inl ⟨by rfl, ?_⟩) hH0 ?_
      · intro w' ⟨s0, s1, s2, s3⟩
        have s4 := hld w' s3
        go_simp
      try simp only [Act.put, List.setIfInBounds_toArray, List.set_cons_zero, List.set_cons_succ]
      refine wpAnyH_take (i := 3) (oi := { dst := some 46, op := Op.move (Operand.tmp 0), type := 24, pos := "frame.go:157", after := #[], guard := none }) (v := .slice (some ⟨b, off, none⟩) len cap) rfl (by kernel_rfl) (by kernel_rfl) (by kernel_rfl) (fun _ _ _ h => h) (Or.inl ⟨by rfl, ?_⟩) hH0 ?_
      · intro w' ⟨s0, s1, s2, s3⟩
        have s4 := hld w' s3
        go_simp
      try simp only [Act.put, List.setIfInBounds_toArray, List.set_cons_zero, List.set_cons_succ]
      refine wpAnyH_take (i := 4) (oi := { dst := some 47, op := Op.slice 24 (Operand.tmp 46) none (some (Operand.const (Value.int IntKind.i64 256))) none, type := 24, pos := "frame.go:157", after := #[{ on := 3, ground := Ground.data }], guard := none }) (v := .slice (some ⟨b, off, none⟩) 256 cap) rfl (by kernel_rfl) (by kernel_rfl) (by kernel_rfl) (fun _ _ _ h => h) (Or.inl ⟨by rfl, ?_⟩) hH0 ?_
      · intro w' ⟨s0, s1, s2, s3⟩
        have s4 := hld w' s3
        go_simp
      try simp only [Act.put, List.setIfInBounds_toArray, List.set_cons_zero, List.set_cons_succ]
      refine wpAnyH_take (i := 5) (oi := { dst := some 48, op := Op.sliceToArrayPointer 55 (Operand.tmp 47), type := 0, pos := "frame.go:157", after := #[{ on := 4, ground := Ground.data }, { on := 8, ground := Ground.gcOnly Departure.lateStores }], guard := none }) (v := .pointer (some ⟨b, off, none⟩)) rfl (by kernel_rfl) (by kernel_rfl) (by kernel_rfl) (fun _ _ _ h => h) (Or.inl ⟨by rfl, ?_⟩) hH0 ?_
      · intro w' ⟨s0, s1, s2, s3⟩
        have s4 := hld w' s3
        go_simp
      try simp only [Act.put, List.setIfInBounds_toArray, List.set_cons_zero, List.set_cons_succ]
      refine wpAnyH_take (i := 6) (oi := { dst := some 49, op := Op.load 55 (Operand.tmp 48), type := 55, pos := "frame.go:157", after := #[{ on := 5, ground := Ground.data }, { on := 8, ground := Ground.gcOnly Departure.lateStores }], guard := none }) (v := .agg (cs.map (Value.int .u8)).toArray) rfl (by kernel_rfl) (by kernel_rfl) (by kernel_rfl) (fun _ _ _ h => h) (yieldsIf_load_mid (by rfl) 55 (.tmp 48) rfl b off rfl (cs.map (Value.int .u8)) _ (fun w' hw' => hw'.2.2.2) Tryd.underlying55 rfl hi55) hH0 ?_
      try simp only [Act.put, List.setIfInBounds_toArray, List.set_cons_zero, List.set_cons_succ]
      refine wpAnyH_ready (rs := [2]) (by kernel_rfl) (by simp) ?_
      refine AllReadyH.cons (o := { dst := some 45, op := Op.call { callee := Callee.value (Operand.func 26), args := #[Operand.tmp 44], argTypes := #[53] }, type := 55, pos := "frame.go:157", after := #[{ on := 1, ground := Ground.data }], guard := none }) rfl (fun K hK => ?_) AllReadyH.nil
      go_simp
      refine (hlay.out _ (below_drews T2.out)).mono ?_
      rintro e w3 ⟨rfl, B3'⟩
      have B3 := Below.ofdrew B3'
      have x3 := X2.out.kept B3 z2
      have y3 := (X.out.kept B2.out (by omega)).kept B3 (by show _ < w2.heap.size; omega)
      have r3 : w3.rangeAt b off (cs.map (Value.int .u8)) := fun j v hv => (B3.cell (p := ⟨b, off + j, none⟩) (by show b < w2.heap.size; omega)).trans (r2 j v hv)
      have y30 := y3.1
      have y31 := y3.2.1
      have y32 := y3.2.2
      have fz3 : ∀ j, w3.frozen? ⟨w.heap.size, j, none⟩ = false := fun j => by
        have e1 : w3.heap[w.heap.size]? = w1.heap[w.heap.size]? := (B3.block _ (by show _ < w2.heap.size; omega)).trans (B2.out.block _ (by omega))
        have := fz.out j
        unfold World.frozen? at this ⊢
        rw [e1]; exact this
      have f30 := fz3 0
      have f31 := fz3 1
      have f32 := fz3 2
      refine hK.out _ _ ⟨x3.1, x3.2.1, x3.2.2, r3⟩ (fun hH1 => ?_)
      clear hK
      try simp only [Act.put, List.setIfInBounds_toArray, List.set_cons_zero, List.set_cons_succ]
      refine wpAnyH_take (i := 7) (oi := { dst := some 50, op := Op.binOp BinOp.eql 55 (Operand.tmp 45) (Operand.tmp 49) 55, type := 4, pos := "frame.go:157", after := #[{ on := 2, ground := Ground.data }, { on := 6, ground := Ground.data }, { on := 8, ground := Ground.gcOnly Departure.lateStores }], guard := none }) (v := .bool (decide (A = cs))) rfl (by kernel_rfl) (by kernel_rfl) (by kernel_rfl) (fun _ _ _ h => h) (Or.inl ⟨by rfl, ?_⟩) hH1 ?_
      · intro w' ⟨s0, s1, s2, s3⟩
        have s4 := hld w' s3
        go_simp
      try simp only [Act.put, List.setIfInBounds_toArray, List.set_cons_zero, List.set_cons_succ]
      refine wpAnyH_ready (rs := [8]) (by kernel_rfl) (by simp) ?_
      refine AllReadyH.cons (o := { dst := none, op := Op.store 53 (Operand.tmp 2) (Operand.tmp 43), type := 0, pos := "frame.go:157", after := #[{ on := 0, ground := Ground.data }, { on := 2, ground := Ground.chain }, { on := 0, ground := Ground.phase }, { on := 1, ground := Ground.textOnly Departure.lateStores }, { on := 2, ground := Ground.textOnly Departure.lateStoresUnsure }, { on := 3, ground := Ground.textOnly Departure.lateStores }, { on := 4, ground := Ground.textOnly Departure.lateStoresUnsure }, { on := 5, ground := Ground.textOnly Departure.lateStores }, { on := 6, ground := Ground.textOnly Departure.lateStores }, { on := 7, ground := Ground.textOnly Departure.lateStores }], guard := none }) rfl (fun K' hK' => ?_) AllReadyH.nil
      go_simp
      refine hK'.out _ _ (KS.out _ _ _ _ ⟨x3.1, x3.2.1, x3.2.2, r3⟩) (fun hH2 => ?_)
      clear hK'
      try simp only [Act.put, List.setIfInBounds_toArray, List.set_cons_zero, List.set_cons_succ]
      refine wpAnyH_take (i := 9) (oi := { dst := some 3, op := Op.assign (Operand.tmp 50), type := 4, pos := "frame.go:157", after := #[{ on := 7, ground := Ground.data }, { on := 8, ground := Ground.chain }, { on := 0, ground := Ground.phase }, { on := 1, ground := Ground.phase }, { on := 2, ground := Ground.phase }, { on := 3, ground := Ground.phase }, { on := 4, ground := Ground.phase }, { on := 5, ground := Ground.phase }, { on := 6, ground := Ground.phase }, { on := 7, ground := Ground.phase }, { on := 8, ground := Ground.phase }], guard := none }) (v := .bool (decide (A = cs))) rfl (by kernel_rfl) (by kernel_rfl) (by kernel_rfl) (fun _ _ _ h => h) (Or.inl ⟨by rfl, ?_⟩) hH2 ?_
      · intro w' ⟨s0, s1, s2, s3⟩
        have s4 := hld w' s3
        go_simp
      try simp only [Act.put, List.setIfInBounds_toArray, List.set_cons_zero, List.set_cons_succ]
      refine wpAnyH_done (by kernel_rfl) ?_ _
      refine NoPanic.normal ?_
      go_wp2_with fail
      refine bodyPost_ret (ret_part rfl rfl y3.set3) rfl ?_
      exact ⟨decide (A = cs), N, _, n, cap - 7, fl, rfl, below_set3 (T2.out.trans (B3.mono (show w.heap.size ≤ w2.heap.size by omega))) (Nat.le_refl _) _ _ _, fun e => (by
        obtain ⟨p, h1, h2, h3, h4⟩ := hyes.out (of_decide_eq_true e)
        exact ⟨p, h1, h2, h3, by rw [← h4]; exact hHH.out⟩), fun e => hno.out (of_decide_eq_false e)⟩)
  · have ha := and2 (show fl ≤ 3 by omega)
    rw [if_pos g4] at ha
    have j2 : (n : Int) < 244 := by omega
    go_wp2_with fail
    go_region_held3 (fun _ => True) (first | trivial) (first
      | (go_at_call 38; refine (hj4.out _ (by first | exact Bd.out | exact Bd.out.alloc Bd.out.size _)).mono ?_; rintro e w5 ⟨rfl, rfl⟩))
    all_goals exact (by
      have X2 : Hid (Box3 (w1.alloc (.cells #[.int .i64 (N : Int), .slice (some ⟨b, off + 7, none⟩) n (cap - 7), .int .i64 (fl : Int)] 53)).drew (w.heap.size + 1) (.int .i64 (N : Int)) (.slice (some ⟨b, off + 7, none⟩) n (cap - 7)) (.int .i64 (fl : Int))) := by rw [← sz]; exact box3_new w1 _ _ _ 53
      have B2 : Hid (Below (w.heap.size + 1) w1 (w1.alloc (.cells #[.int .i64 (N : Int), .slice (some ⟨b, off + 7, none⟩) n (cap - 7), .int .i64 (fl : Int)] 53)).drew) := below_drews ((Below.refl _ _).alloc (by omega) _)
      generalize (w1.alloc (.cells #[.int .i64 (N : Int), .slice (some ⟨b, off + 7, none⟩) n (cap - 7), .int .i64 (fl : Int)] 53)).drew = w2 at X2 B2 ⊢
      have T2 : Hid (Below w.heap.size w w2) := B.out.trans (B2.out.mono (by omega))
      have z2 : w.heap.size + 1 < w2.heap.size := World.block_lt_of_cell? w2 _ X2.out.1
      have x0 := X2.out.1
      have x1 := X2.out.2.1
      have x2 := X2.out.2.2
      have r2 : w2.rangeAt b off (cs.map (Value.int .u8)) := fun j v hv => (T2.out.cell (p := ⟨b, off + j, none⟩) hbl).trans (hr.out j v hv)
      have u55 := Tryd.underlying55
      have hi55 : (Tryd.prog.info? 55).map (·.size) = some (cs.map (Value.int .u8)).length := by rw [info55, List.length_map, hBl.out]
      have harr := run_arrayAt b off cap
      have hgd := run_guard55 A
      have hld : ∀ w' : World, w'.rangeAt b off (cs.map (Value.int .u8)) → (Instr.loadAt 55 (.pointer (some ⟨b, off, none⟩))).run Tryd.prog w' = .ok (.agg (cs.map (Value.int .u8)).toArray) w' := fun w' hw' => run_loadAt_mid w' b off 55 (cs.map (Value.int .u8)) _ hw' Tryd.underlying55 rfl hi55
      have KS : Hid (∀ (w' : World) (x y z : Value), (w'.cell? ⟨w.heap.size + 1, 0, none⟩ = some (.int .i64 (N : Int)) ∧ w'.cell? ⟨w.heap.size + 1, 1, none⟩ = some (.slice (some ⟨b, off + 7, none⟩) n (cap - 7)) ∧ w'.cell? ⟨w.heap.size + 1, 2, none⟩ = some (.int .i64 (fl : Int)) ∧ w'.rangeAt b off (cs.map (Value.int .u8))) →
          ((((w'.setCell ⟨w.heap.size, 0, none⟩ x).setCell ⟨w.heap.size, 1, none⟩ y).setCell ⟨w.heap.size, 2, none⟩ z).cell? ⟨w.heap.size + 1, 0, none⟩ = some (.int .i64 (N : Int)) ∧ (((w'.setCell ⟨w.heap.size, 0, none⟩ x).setCell ⟨w.heap.size, 1, none⟩ y).setCell ⟨w.heap.size, 2, none⟩ z).cell? ⟨w.heap.size + 1, 1, none⟩ = some (.slice (some ⟨b, off + 7, none⟩) n (cap - 7)) ∧ (((w'.setCell ⟨w.heap.size, 0, none⟩ x).setCell ⟨w.heap.size, 1, none⟩ y).setCell ⟨w.heap.size, 2, none⟩ z).cell? ⟨w.heap.size + 1, 2, none⟩ = some (.int .i64 (fl : Int)) ∧ (((w'.setCell ⟨w.heap.size, 0, none⟩ x).setCell ⟨w.heap.size, 1, none⟩ y).setCell ⟨w.heap.size, 2, none⟩ z).rangeAt b off (cs.map (Value.int .u8)))) := by
        intro w' x y z ⟨h1, h2, h3, h4⟩
        have far : ∀ (p : Addr), p.block ≠ w.heap.size → (((w'.setCell ⟨w.heap.size, 0, none⟩ x).setCell ⟨w.heap.size, 1, none⟩ y).setCell ⟨w.heap.size, 2, none⟩ z).cell? p = w'.cell? p := fun p hp => by
          rw [World.cell?_setCell_far _ _ _ _ (fun e => hp e.symm), World.cell?_setCell_far _ _ _ _ (fun e => hp e.symm), World.cell?_setCell_far _ _ _ _ (fun e => hp e.symm)]
        exact ⟨(far _ (by show _ + 1 ≠ _; omega)).trans h1, (far _ (by show _ + 1 ≠ _; omega)).trans h2, (far _ (by show _ + 1 ≠ _; omega)).trans h3, fun j v hv => (far ⟨b, off + j, none⟩ (by show b ≠ _; omega)).trans (h4 j v hv)⟩
      go_wp2_with fail
      refine wp_region_noPanic ?_
      refine wp_region_held_drew (S := (fun w' => w'.cell? ⟨w.heap.size + 1, 0, none⟩ = some (.int .i64 (N : Int)) ∧ w'.cell? ⟨w.heap.size + 1, 1, none⟩ = some (.slice (some ⟨b, off + 7, none⟩) n (cap - 7)) ∧ w'.cell? ⟨w.heap.size + 1, 2, none⟩ = some (.int .i64 (fl : Int)) ∧ w'.rangeAt b off (cs.map (Value.int .u8)))) (by kernel_rfl) ⟨x0, x1, x2, r2⟩ (fun hH0 => ?_)
      refine wpAnyH_take (i := 0) (oi := { dst := some 43, op := Op.load 53 (Operand.tmp 6), type := 53, pos := "frame.go:157", after := #[], guard := none }) (v := .agg #[.int .i64 (N : Int), .slice (some ⟨b, off + 7, none⟩) n (cap - 7), .int .i64 (fl : Int)]) rfl (by kernel_rfl) (by kernel_rfl) (by kernel_rfl) (fun _ _ _ h => h) (Or.inl ⟨by rfl, ?_⟩) hH0 ?_
      · intro w' ⟨s0, s1, s2, s3⟩
        have s4 := hld w' s3
        go_simp
      try simp only [Act.put, List.setIfInBounds_toArray, List.set_cons_zero, List.set_cons_succ]
      refine wpAnyH_take (i := 1) (oi := { dst := some 44, op := Op.load 53 (Operand.tmp 6), type := 53, pos := "frame.go:157", after := #[], guard := none }) (v := .agg #[.int .i64 (N : Int), .slice (some ⟨b, off + 7, none⟩) n (cap - 7), .int .i64 (fl : Int)]) rfl (by kernel_rfl) (by kernel_rfl) (by kernel_rfl) (fun _ _ _ h => h) (Or.inl ⟨by rfl, ?_⟩) hH0 ?_
      · intro w' ⟨s0, s1, s2, s3⟩
        have s4 := hld w' s3
        go_simp
      try simp only [Act.put, List.setIfInBounds_toArray, List.set_cons_zero, List.set_cons_succ]
      refine wpAnyH_take (i := 3) (oi := { dst := some 46, op := Op.move (Operand.tmp 0), type := 24, pos := "frame.go:157", after := #[], guard := none }) (v := .slice (some ⟨b, off, none⟩) len cap) rfl (by kernel_rfl) (by kernel_rfl) (by kernel_rfl) (fun _ _ _ h => h) (Or.inl ⟨by rfl, ?_⟩) hH0 ?_
      · intro w' ⟨s0, s1, s2, s3⟩
        have s4 := hld w' s3
        go_simp
      try simp only [Act.put, List.setIfInBounds_toArray, List.set_cons_zero, List.set_cons_succ]
      refine wpAnyH_take (i := 4) (oi := { dst := some 47, op := Op.slice 24 (Operand.tmp 46) none (some (Operand.const (Value.int IntKind.i64 256))) none, type := 24, pos := "frame.go:157", after := #[{ on := 3, ground := Ground.data }], guard := none }) (v := .slice (some ⟨b, off, none⟩) 256 cap) rfl (by kernel_rfl) (by kernel_rfl) (by kernel_rfl) (fun _ _ _ h => h) (Or.inl ⟨by rfl, ?_⟩) hH0 ?_
      · intro w' ⟨s0, s1, s2, s3⟩
        have s4 := hld w' s3
        go_simp
      try simp only [Act.put, List.setIfInBounds_toArray, List.set_cons_zero, List.set_cons_succ]
      refine wpAnyH_take (i := 5) (oi := { dst := some 48, op := Op.sliceToArrayPointer 55 (Operand.tmp 47), type := 0, pos := "frame.go:157", after := #[{ on := 4, ground := Ground.data }, { on := 8, ground := Ground.gcOnly Departure.lateStores }], guard := none }) (v := .pointer (some ⟨b, off, none⟩)) rfl (by kernel_rfl) (by kernel_rfl) (by kernel_rfl) (fun _ _ _ h => h) (Or.inl ⟨by rfl, ?_⟩) hH0 ?_
      · intro w' ⟨s0, s1, s2, s3⟩
        have s4 := hld w' s3
        go_simp
      try simp only [Act.put, List.setIfInBounds_toArray, List.set_cons_zero, List.set_cons_succ]
      refine wpAnyH_take (i := 6) (oi := { dst := some 49, op := Op.load 55 (Operand.tmp 48), type := 55, pos := "frame.go:157", after := #[{ on := 5, ground := Ground.data }, { on := 8, ground := Ground.gcOnly Departure.lateStores }], guard := none }) (v := .agg (cs.map (Value.int .u8)).toArray) rfl (by kernel_rfl) (by kernel_rfl) (by kernel_rfl) (fun _ _ _ h => h) (yieldsIf_load_mid (by rfl) 55 (.tmp 48) rfl b off rfl (cs.map (Value.int .u8)) _ (fun w' hw' => hw'.2.2.2) Tryd.underlying55 rfl hi55) hH0 ?_
      try simp only [Act.put, List.setIfInBounds_toArray, List.set_cons_zero, List.set_cons_succ]
      refine wpAnyH_ready (rs := [2]) (by kernel_rfl) (by simp) ?_
      refine AllReadyH.cons (o := { dst := some 45, op := Op.call { callee := Callee.value (Operand.func 26), args := #[Operand.tmp 44], argTypes := #[53] }, type := 55, pos := "frame.go:157", after := #[{ on := 1, ground := Ground.data }], guard := none }) rfl (fun K hK => ?_) AllReadyH.nil
      go_simp
      refine (hlay.out _ (below_drews T2.out)).mono ?_
      rintro e w3 ⟨rfl, B3'⟩
      have B3 := Below.ofdrew B3'
      have x3 := X2.out.kept B3 z2
      have y3 := (X.out.kept B2.out (by omega)).kept B3 (by show _ < w2.heap.size; omega)
      have r3 : w3.rangeAt b off (cs.map (Value.int .u8)) := fun j v hv => (B3.cell (p := ⟨b, off + j, none⟩) (by show b < w2.heap.size; omega)).trans (r2 j v hv)
      have y30 := y3.1
      have y31 := y3.2.1
      have y32 := y3.2.2
      have fz3 : ∀ j, w3.frozen? ⟨w.heap.size, j, none⟩ = false := fun j => by
        have e1 : w3.heap[w.heap.size]? = w1.heap[w.heap.size]? := (B3.block _ (by show _ < w2.heap.size; omega)).trans (B2.out.block _ (by omega))
        have := fz.out j
        unfold World.frozen? at this ⊢
        rw [e1]; exact this
      have f30 := fz3 0
      have f31 := fz3 1
      have f32 := fz3 2
      refine hK.out _ _ ⟨x3.1, x3.2.1, x3.2.2, r3⟩ (fun hH1 => ?_)
      clear hK
      try simp only [Act.put, List.setIfInBounds_toArray, List.set_cons_zero, List.set_cons_succ]
      refine wpAnyH_take (i := 7) (oi := { dst := some 50, op := Op.binOp BinOp.eql 55 (Operand.tmp 45) (Operand.tmp 49) 55, type := 4, pos := "frame.go:157", after := #[{ on := 2, ground := Ground.data }, { on := 6, ground := Ground.data }, { on := 8, ground := Ground.gcOnly Departure.lateStores }], guard := none }) (v := .bool (decide (A = cs))) rfl (by kernel_rfl) (by kernel_rfl) (by kernel_rfl) (fun _ _ _ h => h) (Or.inl ⟨by rfl, ?_⟩) hH1 ?_
      · intro w' ⟨s0, s1, s2, s3⟩
        have s4 := hld w' s3
        go_simp
      try simp only [Act.put, List.setIfInBounds_toArray, List.set_cons_zero, List.set_cons_succ]
      refine wpAnyH_ready (rs := [8]) (by kernel_rfl) (by simp) ?_
      refine AllReadyH.cons (o := { dst := none, op := Op.store 53 (Operand.tmp 2) (Operand.tmp 43), type := 0, pos := "frame.go:157", after := #[{ on := 0, ground := Ground.data }, { on := 2, ground := Ground.chain }, { on := 0, ground := Ground.phase }, { on := 1, ground := Ground.textOnly Departure.lateStores }, { on := 2, ground := Ground.textOnly Departure.lateStoresUnsure }, { on := 3, ground := Ground.textOnly Departure.lateStores }, { on := 4, ground := Ground.textOnly Departure.lateStoresUnsure }, { on := 5, ground := Ground.textOnly Departure.lateStores }, { on := 6, ground := Ground.textOnly Departure.lateStores }, { on := 7, ground := Ground.textOnly Departure.lateStores }], guard := none }) rfl (fun K' hK' => ?_) AllReadyH.nil
      go_simp
      refine hK'.out _ _ (KS.out _ _ _ _ ⟨x3.1, x3.2.1, x3.2.2, r3⟩) (fun hH2 => ?_)
      clear hK'
      try simp only [Act.put, List.setIfInBounds_toArray, List.set_cons_zero, List.set_cons_succ]
      refine wpAnyH_take (i := 9) (oi := { dst := some 3, op := Op.assign (Operand.tmp 50), type := 4, pos := "frame.go:157", after := #[{ on := 7, ground := Ground.data }, { on := 8, ground := Ground.chain }, { on := 0, ground := Ground.phase }, { on := 1, ground := Ground.phase }, { on := 2, ground := Ground.phase }, { on := 3, ground := Ground.phase }, { on := 4, ground := Ground.phase }, { on := 5, ground := Ground.phase }, { on := 6, ground := Ground.phase }, { on := 7, ground := Ground.phase }, { on := 8, ground := Ground.phase }], guard := none }) (v := .bool (decide (A = cs))) rfl (by kernel_rfl) (by kernel_rfl) (by kernel_rfl) (fun _ _ _ h => h) (Or.inl ⟨by rfl, ?_⟩) hH2 ?_
      · intro w' ⟨s0, s1, s2, s3⟩
        have s4 := hld w' s3
        go_simp
      try simp only [Act.put, List.setIfInBounds_toArray, List.set_cons_zero, List.set_cons_succ]
      refine wpAnyH_done (by kernel_rfl) ?_ _
      refine NoPanic.normal ?_
      go_wp2_with fail
      refine bodyPost_ret (ret_part rfl rfl y3.set3) rfl ?_
      exact ⟨decide (A = cs), N, _, n, cap - 7, fl, rfl, below_set3 (T2.out.trans (B3.mono (show w.heap.size ≤ w2.heap.size by omega))) (Nat.le_refl _) _ _ _, fun e => (by
        obtain ⟨p, h1, h2, h3, h4⟩ := hyes.out (of_decide_eq_true e)
        exact ⟨p, h1, h2, h3, by rw [← h4]; exact hHH.out⟩), fun e => hno.out (of_decide_eq_false e)⟩)

theorem look_any (w : World) (a : Option Addr) (len cap : Nat) (l : List Int) (h : Has w a len cap l) (ht : Tab w) :
    Calls Tryd.prog 30 #[.slice a len cap] w (Looks w a len cap l) := by
  by_cases hs : len < 256
  · exact look_short w a len cap l h hs
  · obtain ⟨b, off, rfl, _, _⟩ := h.cells (by omega)
    by_cases hf : Fits l
    · exact look_fits w b off len cap l h (by omega) hf ht
    · exact look_not w b off len cap l h (by omega) hf
end Go.Proofs.YtbaclihlckfndaaDoor
