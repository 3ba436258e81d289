/-
  The walks of begins, ends, isNumber and look.
-/
import Derived.Test.YtbaclihlckfndaaDoorG
import Derived.Stop.BytesEq
import Derived.Laws.ResultCell
import Derived.Deep.MidRow
namespace Go.Proofs.YtbaclihlckfndaaDoor
open Go.RowKit
set_option linter.unusedVariables false

theorem and2 {fl : Nat} (h : fl ≤ 3) : bits .and .i64 (fl : Int) 2 = (if 2 ≤ fl then 2 else 0) := by
  rcases (show fl = 0 ∨ fl = 1 ∨ fl = 2 ∨ fl = 3 by omega) with rfl | rfl | rfl | rfl <;> rfl
theorem and1 {fl : Nat} (h : fl ≤ 3) : bits .and .i64 (fl : Int) 1 = (if fl % 2 = 1 then 1 else 0) := by
  rcases (show fl = 0 ∨ fl = 1 ∨ fl = 2 ∨ fl = 3 by omega) with rfl | rfl | rfl | rfl <;> rfl
theorem or2 {fl : Nat} (h : fl ≤ 1) : bits .or .i64 (fl : Int) 2 = ((fl + 2 : Nat) : Int) := by
  rcases (show fl = 0 ∨ fl = 1 by omega) with rfl | rfl <;> rfl

set_option maxHeartbeats 400000 in
theorem ends_any (w : World) (x y : Value) (fl : Nat) (h : fl ≤ 3) :
    Calls Tryd.prog 29 #[.agg #[x, y, .int .i64 (fl : Int)]] w fun e w' => e = .returned (.bool (decide (2 ≤ fl))) ∧ Below w.heap.size w w' := by
  have hX := box3_new w x y (.int .i64 (fl : Int)) 53
  have h2 := hX.2.2
  have ha := and2 h
  by_cases hb : 2 ≤ fl
  · rw [if_pos hb] at ha
    go_enter Tryd.func29, Tryd.ntmps29
    go_wp2
    go_ret
    exact ⟨by simp [hb], (Below.refl _ _).alloc (Nat.le_refl _) _⟩
  · rw [if_neg hb] at ha
    go_enter Tryd.func29, Tryd.ntmps29
    go_wp2
    go_ret
    exact ⟨by simp [hb], (Below.refl _ _).alloc (Nat.le_refl _) _⟩

set_option maxHeartbeats 400000 in
theorem begins_any (w : World) (x y : Value) (fl : Nat) (h : fl ≤ 3) :
    Calls Tryd.prog 37 #[.agg #[x, y, .int .i64 (fl : Int)]] w fun e w' => e = .returned (.bool (decide (fl % 2 = 1))) ∧ Below w.heap.size w w' := by
  have hX := box3_new w x y (.int .i64 (fl : Int)) 53
  have h2 := hX.2.2
  have ha := and1 h
  by_cases hb : fl % 2 = 1
  · rw [if_pos hb] at ha
    go_enter Tryd.func37, Tryd.ntmps37
    go_wp2
    go_ret
    exact ⟨by simp [hb], (Below.refl _ _).alloc (Nat.le_refl _) _⟩
  · rw [if_neg hb] at ha
    go_enter Tryd.func37, Tryd.ntmps37
    go_wp2
    go_ret
    exact ⟨by simp [hb], (Below.refl _ _).alloc (Nat.le_refl _) _⟩

set_option maxHeartbeats 400000 in
theorem isNumber_any (w : World) (x : Int) :
    Calls Tryd.prog 24 #[.int .i64 x] w fun e w' => e = .returned (.bool (decide (0 ≤ x ∧ x ≤ 4294967295))) ∧ w' = w := by
  by_cases h1 : 0 ≤ x
  · by_cases h2 : x ≤ 4294967295
    · go_enter Tryd.func24, Tryd.ntmps24
      go_wp2
      all_goals go_ret
      all_goals exact ⟨by simp [h1, h2], rfl⟩
    · have h2' : 4294967295 < x := by omega
      go_enter Tryd.func24, Tryd.ntmps24
      go_wp2
      all_goals go_ret
      all_goals exact ⟨by simp [h2], rfl⟩
  · have h1' : x < 0 := by omega
    go_enter Tryd.func24, Tryd.ntmps24
    go_wp2
    all_goals go_ret
    all_goals exact ⟨by rw [show decide (0 ≤ x) = false from decide_eq_false (by omega)]; rfl, rfl⟩

/-- Arrays of bytes are held against each other. -/
theorem aval_cells {A : List Int} (h : Byts A) : A.map (Value.int .u8) = (A.map (fun x => UInt8.ofNat x.toNat)).map Extern.Stop.cell := by
  rw [List.map_map]
  apply List.map_congr_left
  intro x hx
  have := h x hx
  have e : (UInt8.ofNat x.toNat).toNat = x.toNat := by
    rw [UInt8.toNat_ofNat']; exact Nat.mod_eq_of_lt (by omega)
  simp only [Function.comp, Extern.Stop.cell]
  rw [e]
  congr 1
  exact (Int.toNat_of_nonneg this.1).symm
theorem u8s_inj {A B : List Int} (hA : Byts A) (hB : Byts B) : (A.map (fun x => UInt8.ofNat x.toNat) == B.map (fun x => UInt8.ofNat x.toNat)) = decide (A = B) := by
  rw [Bool.eq_iff_iff, beq_iff_eq, decide_eq_true_iff]
  constructor
  · intro h
    have := congrArg (List.map Extern.Stop.cell) h
    rw [← aval_cells hA, ← aval_cells hB] at this
    exact (List.map_inj_right (fun a b h => by injection h)).1 this
  · rintro rfl; rfl
theorem run_eql55 {A B : List Int} (hA : Byts A) (hB : Byts B) (lA : A.length = 256) (lB : B.length = 256) (w : World) :
    (binOp .eql 55 (aval A) (.agg (B.map (Value.int .u8)).toArray)).run Tryd.prog w = .ok (.bool (decide (A = B))) w := by
  have hsz : ∀ w, (sizeOf 5).run Tryd.prog w = .ok 1 w := by
    intro w
    obtain ⟨i0, hi, hz0, hz1, hz2⟩ := info_parts info5
    simp [sizeOf, typeInfo, go_sem, hi, hz1]
  have := run_eql_bytes w 55 5 256 Tryd.underlying55 Tryd.underlying5 hsz (A.map (fun x => UInt8.ofNat x.toNat)) (B.map (fun x => UInt8.ofNat x.toNat)) (by simpa using lA) (by simpa using lB)
  rw [← aval_cells hA, ← aval_cells hB, u8s_inj hA hB] at this
  exact this
theorem under55 : Tryd.prog.underlying 55 = some (.array 256 5) := Tryd.underlying55
theorem Has.heap {w w' : World} {a : Option Addr} {len cap : Nat} {l : List Int} (h : Has w a len cap l) (e : w'.heap = w.heap) : Has w' a len cap l := by
  refine ⟨h.hlen, h.le, h.capb, h.nil, fun hp => ?_, h.bytes⟩
  obtain ⟨b, off, e1, e2, e3⟩ := h.cells hp
  exact ⟨b, off, e1, by rw [e]; exact e2, fun i hi => (World.cell?_of_block (w := w) (by rw [e])).trans (e3 i hi)⟩
/-- A piece of a slice. -/
theorem Has.piece {w : World} {b off len cap : Nat} {l : List Int} (h : Has w (some ⟨b, off, none⟩) len cap l) (i n : Nat) (hi : i + n ≤ len) (c : Nat) (hc : n ≤ c) (hm : c ≤ maxLen) : Has w (some ⟨b, off + i, none⟩) n c ((l.drop i).take n) := by
  have hl := h.hlen
  refine ⟨by simp; omega, hc, hm, (fun e => by cases e), fun hp => ?_, fun x hx => h.bytes x (List.mem_of_mem_drop (List.mem_of_mem_take hx))⟩
  obtain ⟨b', off', e1, e2, e3⟩ := h.cells (by omega)
  cases e1
  refine ⟨b, off + i, rfl, e2, fun j hj => ?_⟩
  rw [Nat.add_assoc, e3 (i + j) (by omega)]
  simp [List.getD, hj]

/-- What look answers. -/
def Looks (w : World) (ai : Option Addr) (len cap : Nat) (l : List Int) (e : Ending) (w' : World) : Prop :=
  ∃ (ok : Bool) (N : Nat) (a : Option Addr) (n c fl : Nat), e = .returned (.tuple #[.agg #[.int .i64 (N : Int), .slice a n c, .int .i64 (fl : Int)], .bool ok]) ∧ Below w.heap.size w w' ∧
    (ok = true → ∃ p : Says, Begins l p ∧ N = p.number ∧ fl = p.flags ∧ ∀ w0, Has w0 ai len cap l → Has w0 a n c p.bytes) ∧ (ok = false → ¬ ∃ p, Begins l p)

theorem info53 : (Tryd.prog.info? 53).map (·.size) = some 3 := by kernel_rfl
theorem Box3.range {w : World} {g : Nat} {x y z : Value} (h : Box3 w g x y z) : w.rangeAt g 0 [x, y, z] := by
  intro j v hv
  rcases j with _ | _ | _ | j
  · cases hv; exact h.1
  · cases hv; exact h.2.1
  · cases hv; exact h.2.2
  · simp at hv
theorem ret_part {fn : Func} {p u : Tmp} (h : fn.results = #[.cell p 53, .tmp u]) {tmps : Array Value} {w : World} {g : Nat} {x y z : Value} (hp : tmps.getD p undef = .pointer (some ⟨g, 0, none⟩)) (hb : Box3 w g x y z) :
    (results fn tmps).run Tryd.prog w = .ok (.tuple #[.agg #[x, y, z], tmps.getD u undef]) w := by
  rw [results_cell_tmp h, hp]
  simp only [asAddr, Sem.run_pure, Result.andThen_ok]
  rw [run_loadVar_mid w g 0 53 [x, y, z] _ hb.range Tryd.underlying53 rfl info53]
  rfl

theorem below_drewsN {B : Nat} {w w' : World} (h : Below B w w') (n : Nat) : Below B w (w'.drewN n) := ⟨h.os, h.tape, h.output, h.size, h.block⟩
theorem Box3.drewsN {w : World} {g : Nat} {x y z : Value} (h : Box3 w g x y z) (n : Nat) : Box3 (w.drewN n) g x y z := h
theorem Box3.set3 {w : World} {g : Nat} {x y z x' y' z' : Value} (h : Box3 w g x y z) : Box3 (((w.setCell ⟨g, 0, none⟩ x').setCell ⟨g, 1, none⟩ y').setCell ⟨g, 2, none⟩ z') g x' y' z' := by
  obtain ⟨h0, h1, h2⟩ := h
  have d : ∀ (w : World) (i j : Nat) (v : Value), i ≠ j → (w.setCell ⟨g, i, none⟩ v).cell? ⟨g, j, none⟩ = w.cell? ⟨g, j, none⟩ := fun w i j v hij => World.cell?_setCell_other w _ _ v (by intro e; injection e; omega)
  have s : ∀ (w : World) (i : Nat) (v u : Value), w.cell? ⟨g, i, none⟩ = some u → (w.setCell ⟨g, i, none⟩ v).cell? ⟨g, i, none⟩ = some v := fun w i v u hu => World.cell?_setCell_same' _ _ _ (by rw [hu]; rfl)
  refine ⟨?_, ?_, ?_⟩
  · rw [d _ 2 0 _ (by decide), d _ 1 0 _ (by decide)]; exact s _ _ _ _ h0
  · rw [d _ 2 1 _ (by decide)]; exact s _ _ _ _ (by rw [d _ 0 1 _ (by decide)]; exact h1)
  · exact s _ _ _ _ (by rw [d _ 1 2 _ (by decide), d _ 0 2 _ (by decide)]; exact h2)
theorem below_set3 {B : Nat} {w w' : World} {g : Nat} (h : Below B w w') (hg : B ≤ g) (x y z : Value) : Below B w (((w'.setCell ⟨g, 0, none⟩ x).setCell ⟨g, 1, none⟩ y).setCell ⟨g, 2, none⟩ z) :=
  ((h.setCell (p := ⟨g, 0, none⟩) hg _).setCell (p := ⟨g, 1, none⟩) hg _).setCell (p := ⟨g, 2, none⟩) hg _
def no53 : Obj := .cells #[.int .i64 0, .slice none 0 0, .int .i64 0] 53
theorem looks_no {w : World} {ai : Option Addr} {len cap : Nat} {l : List Int} (h : ¬ ∃ p, Begins l p) {w' : World} (hb : Below w.heap.size w w') : Looks w ai len cap l (.returned (.tuple #[.agg #[.int .i64 0, .slice none 0 0, .int .i64 0], .bool false])) w' :=
  ⟨false, 0, none, 0, 0, 0, rfl, hb, (fun h => by cases h), fun _ => h⟩

set_option maxRecDepth 100000 in
set_option maxHeartbeats 400000 in
theorem look_short (w : World) (a : Option Addr) (len cap : Nat) (l : List Int) (h : Has w a len cap l) (hs : len < 256) :
    Calls Tryd.prog 30 #[.slice a len cap] w (Looks w a len cap l) := by
  have hl := h.hlen
  have hno : Hid (¬ ∃ p, Begins l p) := by rintro ⟨p, hp⟩; have := begins_len hp; omega
  clear h
  go_enter Tryd.func30, Tryd.ntmps30
  go_wp2
  refine bodyPost_ret (ret_part rfl rfl (box3_new w _ _ _ 53)) rfl ?_
  exact ⟨false, 0, none, 0, 0, 0, rfl, (Below.refl _ _).alloc (Nat.le_refl _) _, (fun h => by cases h), fun _ => hno.out⟩

set_option maxRecDepth 100000 in
set_option maxHeartbeats 300000 in
theorem look_not (w : World) (b off len cap : Nat) (l : List Int) (h : Has w (some ⟨b, off, none⟩) len cap l) (hs : 256 ≤ len) (hf : ¬ Fits l) :
    Calls Tryd.prog 30 #[.slice (some ⟨b, off, none⟩) len cap] w (Looks w (some ⟨b, off, none⟩) len cap l) := by
  have hl := h.hlen
  have hle := h.le
  have hcap := h.capb
  unfold maxLen at hcap
  have hno : Hid (¬ ∃ p, Begins l p) := fun hp => hf ((begins_iff h.bytes).1 hp).2.1
  have i1 : (256 : Int) ≤ len := by omega
  have i2 : (len : Int) ≤ cap := by omega
  have i3 : (6 : Int) ≤ cap := by omega
  have i4 : (4 : Int) < cap := by omega
  have i5 : (6 : Int) < len := by omega
  have i6 : 4 < cap := by omega
  have i7 : 6 ≤ cap := by omega
  have i8 : cap ≠ 4 := by omega
  have hj : Hid (∀ w' : World, w'.heap = (w.alloc (.cells #[.int .i64 0, .slice none 0 0, .int .i64 0] 53)).heap → Calls Tryd.prog 38 #[.slice (some ⟨b, off + 4, none⟩) 2 (cap - 4)] w' fun e w'' => e = .returned (.int .i64 (numK (l.drop 4) 2 : Nat)) ∧ w'' = w') := fun w' e => by
    have H := (h.kept ((Below.refl w.heap.size w).alloc (Nat.le_refl _) (.cells #[.int .i64 0, .slice none 0 0, .int .i64 0] 53)) (Nat.le_refl _)).piece 4 2 (by omega) (cap - 4) (by omega) (by unfold maxLen; omega)
    have := join_any w' _ 2 (cap - 4) _ (H.heap e) (by omega)
    rwa [numK_take _ _ _ (Nat.le_refl _)] at this
  have c6 : (w.alloc (.cells #[.int .i64 0, .slice none 0 0, .int .i64 0] 53)).cell? ⟨b, off + 6, none⟩ = some (.int .u8 (l.getD 6 0)) := by
    obtain ⟨b', off', e1, e2, e3⟩ := (h.kept ((Below.refl w.heap.size w).alloc (Nat.le_refl _) (.cells #[.int .i64 0, .slice none 0 0, .int .i64 0] 53)) (Nat.le_refl _)).cells (by omega)
    cases e1
    exact e3 6 (by omega)
  have hb6 := getD_byt h.bytes 6 (by omega)
  unfold Fits at hf
  generalize numK (l.drop 4) 2 = n at hj hf
  obtain ⟨fl, hfl⟩ : ∃ fl : Nat, l.getD 6 0 = (fl : Int) := ⟨(l.getD 6 0).toNat, by omega⟩
  rw [hfl] at c6 hb6 hf
  simp only [Int.toNat_natCast] at hf
  clear hfl h
  go_enter Tryd.func30, Tryd.ntmps30
  go_wp2_with fail
  go_quiet ((go_at_call 38; exact Calls.quiet_of_same (hj.out _ rfl)))
  have X : Hid (Box3 ((w.alloc (.cells #[.int .i64 0, .slice none 0 0, .int .i64 0] 53)).drewN nq) w.heap.size (.int .i64 0) (.slice none 0 0) (.int .i64 0)) := (box3_new w _ _ _ 53).drewsN nq
  have B : Hid (Below w.heap.size w ((w.alloc (.cells #[.int .i64 0, .slice none 0 0, .int .i64 0] 53)).drewN nq)) := below_drewsN ((Below.refl _ _).alloc (Nat.le_refl _) _) nq
  have fz : ∀ j, ((w.alloc (.cells #[.int .i64 0, .slice none 0 0, .int .i64 0] 53)).drewN nq).frozen? ⟨w.heap.size, j, none⟩ = false := fun j => frozen_of_row _ _ j #[.int .i64 0, .slice none 0 0, .int .i64 0] 53 (heap_alloc_new w _)
  generalize (w.alloc (.cells #[.int .i64 0, .slice none 0 0, .int .i64 0] 53)).drewN nq = w1 at X B fz ⊢
  have x0 := X.out.1
  have x1 := X.out.2.1
  have x2 := X.out.2.2
  have f0 := fz 0
  have f1 := fz 1
  have f2 := fz 2
  clear fz c6
  by_cases g1 : n ≤ 244
  · by_cases g2 : fl ≤ 3
    · have g3 : n < 244 := by omega
      have g4 : ¬ 2 ≤ fl := by omega
      have ha := and2 g2
      rw [if_neg g4] at ha
      have j1 : (n : Int) ≤ 244 := by omega
      have j2 : (n : Int) < 244 := by omega
      have j3 : (fl : Int) ≤ 3 := by omega
      go_wp2_with fail
      refine bodyPost_ret (ret_part rfl rfl X.out.set3) rfl ?_
      exact looks_no hno.out (below_set3 B.out (Nat.le_refl _) _ _ _)
    · have j1 : (n : Int) ≤ 244 := by omega
      have j3 : 3 < (fl : Int) := by omega
      go_wp2_with fail
      refine bodyPost_ret (ret_part rfl rfl X.out.set3) rfl ?_
      exact looks_no hno.out (below_set3 B.out (Nat.le_refl _) _ _ _)
  · have j1 : 244 < (n : Int) := by omega
    go_wp2_with fail
    refine bodyPost_ret (ret_part rfl rfl X.out.set3) rfl ?_
    exact looks_no hno.out (below_set3 B.out (Nat.le_refl _) _ _ _)
end Go.Proofs.YtbaclihlckfndaaDoor
