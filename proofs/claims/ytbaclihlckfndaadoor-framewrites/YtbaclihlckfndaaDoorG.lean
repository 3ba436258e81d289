/-
  The walk of lay: the sector that says something.
-/
import Derived.Test.YtbaclihlckfndaaDoorF
import Derived.BigQuiet
import Derived.Deep.QuietTactic
import Derived.WalkSmall
import Derived.Deep.RegionHeld3
namespace Go.Proofs.YtbaclihlckfndaaDoor
open Go.RowKit
set_option linter.unusedVariables false

/-- The value of an array of bytes. -/
def aval (L : List Int) : Value := .agg (L.map (Value.int .u8)).toArray
def zeros : List Int := List.replicate 256 0
theorem sec_zeros (w : World) : Sec (w.alloc (.cells (zeros.map (Value.int .u8)).toArray 55)) w.heap.size zeros := ⟨heap_alloc_new w _, List.length_replicate, byts_zeros 256⟩
theorem info55 : (Tryd.prog.info? 55).map (·.size) = some 256 := by kernel_rfl
theorem aval_size {L : List Int} (h : L.length = 256) : ((L.map (Value.int .u8)).toArray).size = 256 := by simpa using h
theorem aval_one (L : List Int) : ((L.map (Value.int .u8)).toArray).all (·.oneCell') = true := by
  rw [Array.all_eq_true_iff_forall_mem]
  intro v hv
  simp at hv
  obtain ⟨j, _, rfl⟩ := hv
  rfl
theorem below_setRow {B : Nat} {w w' : World} {g : Nat} (h : Below B w w') (hg : B ≤ g) (cs : Array Value) : Below B w (w'.setRow g cs) :=
  ⟨h.os, h.tape, h.output, by rw [size_setRow]; exact h.size, fun k hk => (Go.setRow_other w' g k cs (by omega)).trans (h.block k hk)⟩
theorem Sec.setRow {w : World} {g : Nat} {L : List Int} (h : Sec w g L) {L' : List Int} (hl : L'.length = 256) (hb : Byts L') : Sec (w.setRow g (L'.map (Value.int .u8)).toArray) g L' := ⟨setRow_heap w g _ _ 55 _ h.row, hl, hb⟩

section
variable {w : World} {ops : Array Oper} {rest : List Oper} {o : Oper} {a : Act} {Q : Exit → Act → World → Prop}
theorem wpList_alloc55 (hg : o.guard = none) (ho : o.op = .alloc 55)
    (h : ∀ w', Sec w' w.heap.size zeros → w'.heap.size = w.heap.size + 1 → Below w.heap.size w w' → wpList Tryd.prog ops Q rest (a.put o.dst (.pointer (some ⟨w.heap.size, 0, none⟩))) w') : wpList Tryd.prog ops Q (o :: rest) a w := by
  refine wpList_plain hg fun K hK => ?_
  have hrun : (execOp a.eval o).run Tryd.prog w = .ok (.value (.pointer (some ⟨w.heap.size, 0, none⟩))) (w.alloc (.cells (zeros.map (Value.int .u8)).toArray 55)) := by
    unfold execOp
    rw [ho]
    kernel_rfl
  unfold Oper.wp
  rw [hrun, Oper.upon_value]
  exact hK _ _ (h _ (sec_zeros w) (by simp) ((Below.refl _ _).alloc (Nat.le_refl _) _))
theorem wpList_store55 (hg : o.guard = none) (x y : Operand) (ho : o.op = .store 55 x y) (g : Nat) (L L' : List Int) (hx : a.eval x = .pointer (some ⟨g, 0, none⟩)) (hy : a.eval y = aval L') (hl : L'.length = 256) (hb : Byts L')
    (hA : Sec w g L)
    (h : ∀ w', w'.heap.size = w.heap.size → Sec w' g L' → Below g w w' → wpList Tryd.prog ops Q rest (a.put o.dst undef) w') : wpList Tryd.prog ops Q (o :: rest) a w := by
  refine wpList_store_row hg 55 x y ho g _ hx hy 55 _ hA.row (by rw [aval_size hl]; exact info55) (by rw [aval_size hA.len, aval_size hl]) (aval_one _) ?_
  exact h _ (size_setRow _ _ _) (hA.setRow hl hb) (below_setRow (Below.refl _ _) (Nat.le_refl _) _)
theorem wpList_load55 (hg : o.guard = none) (x : Operand) (ho : o.op = .load 55 x) (g : Nat) (L : List Int) (hx : a.eval x = .pointer (some ⟨g, 0, none⟩)) (hA : Sec w g L)
    (h : wpList Tryd.prog ops Q rest (a.put o.dst (aval L)) w) : wpList Tryd.prog ops Q (o :: rest) a w :=
  wpList_load_row hg 55 x ho g hx 55 _ (0, 0) _ hA.row Tryd.underlying55 rfl (by rw [aval_size hA.len]; exact info55) h
end

theorem Sec.drew {w : World} {g : Nat} {L : List Int} (h : Sec w g L) : Sec w.drew g L := ⟨h.row, h.len, h.byts⟩

theorem size5 : (Tryd.prog.info? 5).map (·.size) = some 1 := by
  obtain ⟨i0, hi, hz0, hz1, hz2⟩ := info_parts info5
  simp [hi, hz1]
/-- A part lies in three cells. -/
def Box3 (w : World) (g : Nat) (x y z : Value) : Prop := w.cell? ⟨g, 0, none⟩ = some x ∧ w.cell? ⟨g, 1, none⟩ = some y ∧ w.cell? ⟨g, 2, none⟩ = some z
theorem Box3.kept {w w' : World} {g B : Nat} {x y z : Value} (h : Box3 w g x y z) (hb : Below B w w') (hg : g < B) : Box3 w' g x y z :=
  ⟨(hb.cell (p := ⟨g, 0, none⟩) hg).trans h.1, (hb.cell (p := ⟨g, 1, none⟩) hg).trans h.2.1, (hb.cell (p := ⟨g, 2, none⟩) hg).trans h.2.2⟩
theorem box3_new (w : World) (x y z : Value) (t : TypeId) : Box3 (w.alloc (.cells #[x, y, z] t)) w.heap.size x y z := ⟨by simp [cell_of_row _ _ _ _ _ _ (heap_alloc_new w _)], by simp [cell_of_row _ _ _ _ _ _ (heap_alloc_new w _)], by simp [cell_of_row _ _ _ _ _ _ (heap_alloc_new w _)]⟩

/-- copy into a sector, as one step of a region that draws. -/
theorem step_copy55 {ops : Array Oper} {o : Oper} {a : Act} {w : World} {K : Act → World → Prop} {Q : Exit → Act → World → Prop} {E : Prop} (hgd : o.guard = none) (d s : Operand)
    (ho : o.op = .call { callee := .builtin .copy, args := #[d, s], argTypes := #[24, 24] }) (g off n c : Nat) (hd : a.eval d = .slice (some ⟨g, off, none⟩) n c) (L : List Int) (hA : Sec w g L)
    (sa : Option Addr) (m scap : Nat) (l : List Int) (hs : a.eval s = .slice sa m scap) (hh : Has w sa m scap l) (hm : m ≤ n) (hn : off + n ≤ 256)
    (hK : ∀ w', Sec w' g (lay L off l) → w'.heap.size = w.heap.size → Below g w w' → K (a.put o.dst (goInt m)) w') :
    if Region.wanted o (yielded ops a.tmps) = true then Oper.wp Tryd.prog o a w K Q else E := by
  have hw : Region.wanted o (yielded ops a.tmps) = true := by simp [Region.wanted, hgd]
  rw [if_pos hw]
  have hl := hh.hlen
  have hL := hA.len
  by_cases h0 : m = 0
  · have hrun := run_copy_none (P := Tryd.prog) w 24 24 o.type 5 (some ⟨g, off, none⟩) sa n c m scap Tryd.underlying24 size5 (by subst h0; simp)
    unfold Oper.wp
    simp [execOp, ho, resolve, invoke, builtin, hd, hs, hrun, Result.andThen]
    subst h0
    obtain rfl : l = [] := List.eq_nil_of_length_eq_zero hl
    exact hK w (by rw [lay_nil]; exact hA) rfl (Below.refl _ _)
  · obtain ⟨b, o2, rfl, e2, e3⟩ := cells_of_has hh (by omega)
    have hrun := run_copy_row (P := Tryd.prog) w 24 24 o.type 5 g off n c ⟨b, o2, none⟩ m scap _ 55 (l.map (Value.int .u8)) Tryd.underlying24 size5 hA.row (by simp only [List.length_map]; rw [hl]; exact (Nat.min_eq_left hm).symm) e3 (by simp; omega) (ints_oneCell _ _)
    unfold Oper.wp
    simp only [List.length_map] at hrun
    rw [hl] at hrun
    simp [execOp, ho, resolve, invoke, builtin, hd, hs, hrun, Result.andThen]
    have e : (List.take off (List.map (Value.int .u8) L) ++ (List.map (Value.int .u8) l ++ List.drop (off + m) (List.map (Value.int .u8) L))).toArray = ((lay L off l).map (Value.int .u8)).toArray := by
      simp [lay, hl, List.map_take, List.map_drop]
    have key := hK (w.setRow g ((lay L off l).map (Value.int .u8)).toArray) (hA.setRow (by rw [lay_len (by omega), hL]) ((hA.byts.take _).app (Byts.app hh.bytes (hA.byts.drop _)))) (size_setRow _ _ _) (below_setRow (Below.refl _ _) (Nat.le_refl _) _)
    rw [← e] at key
    rw [Oper.upon_value]
    exact key

theorem lay_app (A R B : List Int) (off : Nat) (h : A.length = off) : lay (A ++ R) off B = A ++ (B ++ R.drop B.length) := by
  subst h
  simp [lay, List.drop_append]
theorem set_app (A R : List Int) (off : Nat) (x : Int) (h : A.length = off) : (A ++ (0 :: R)).set off x = A ++ (x :: R) := by
  subst h
  simp
/-- What is laid, step by step. -/
def L1 (N : Nat) : List Int := lay zeros 0 (bytesN N 4)
def L2 (N : Nat) (m : List Int) : List Int := lay (L1 N) 4 (bytesN m.length 2)
def L3 (N : Nat) (m : List Int) (fl : Nat) : List Int := (L2 N m).set 6 (fl : Int)
def L4 (N : Nat) (m : List Int) (fl : Nat) : List Int := lay (L3 N m fl) 7 m
theorem L4_eq (N : Nat) (m : List Int) (fl : Nat) (h : m.length ≤ 244) : L4 N m fl = bodyOf N m fl ++ List.replicate 5 0 := by
  have e1 : L1 N = bytesN N 4 ++ List.replicate 252 0 := by
    unfold L1
    rw [show zeros = [] ++ List.replicate 256 0 from rfl, lay_app _ _ _ 0 rfl, bytesN_len, List.drop_replicate, List.nil_append]
  have e2 : L2 N m = (bytesN N 4 ++ bytesN m.length 2) ++ List.replicate 250 0 := by
    unfold L2
    rw [e1, lay_app _ _ _ 4 (bytesN_len _ _), bytesN_len, List.drop_replicate, List.append_assoc]
  have e3 : L3 N m fl = (bytesN N 4 ++ (bytesN m.length 2 ++ [(fl : Int)])) ++ List.replicate 249 0 := by
    unfold L3
    rw [e2, show (List.replicate 250 0 : List Int) = 0 :: List.replicate 249 0 from rfl, set_app _ _ 6 _ (by simp [bytesN_len])]
    simp only [List.append_assoc, List.cons_append, List.nil_append]
  unfold L4
  rw [e3, lay_app _ _ _ 7 (by simp [bytesN_len]), List.drop_replicate]
  unfold bodyOf
  simp only [List.append_assoc, List.cons_append, List.nil_append]
  rw [List.replicate_append_replicate, show 244 - m.length + 5 = 249 - m.length by omega]
theorem L4_take (N : Nat) (m : List Int) (fl : Nat) (h : m.length ≤ 244) : ((L4 N m fl).drop 0).take 251 = bodyOf N m fl := by
  rw [L4_eq N m fl h, List.drop_zero, List.take_append_of_le_length (by rw [bodyOf_len h]; exact Nat.le_refl _), List.take_of_length_le (by rw [bodyOf_len h]; exact Nat.le_refl _)]
theorem L6_eq (N : Nat) (m : List Int) (fl : Nat) (h : m.length ≤ 244) : (lay (L4 N m fl) 251 (bytesN (more 0 (bodyOf N m fl)) 4)).set 255 255 = sec N m fl := by
  rw [L4_eq N m fl h, lay_app _ _ _ 251 (bodyOf_len h), bytesN_len, List.drop_replicate, ← List.append_assoc, show (List.replicate (5 - 4) 0 : List Int) = 0 :: [] from rfl, set_app _ _ 255 _ (by simp [bytesN_len, bodyOf_len h])]
  simp [sec]
theorem Has.drew {w : World} {a : Option Addr} {len cap : Nat} {l : List Int} (h : Has w a len cap l) : Has w.drew a len cap l := ⟨h.hlen, h.le, h.capb, h.nil, h.cells, h.bytes⟩
theorem Tab.drew {w : World} (h : Tab w) : Tab w.drew := h
theorem Below.ofdrew {B : Nat} {w w' : World} (h : Below B w.drew w') : Below B w w' := (Below.drew (Below.refl B w)).trans h
theorem u8_keep {fl : Nat} (h : fl ≤ 255) : Value.int .u8 ((fl : Int) % 256) = .int .u8 (fl : Int) := by rw [show ((fl : Int) % 256) = fl by omega]

set_option maxHeartbeats 2000000 in
theorem lay_any (w : World) (N fl : Nat) (a : Option Addr) (len cap : Nat) (m : List Int) (h : Has w a len cap m) (hN : N < 4294967296) (hl : len ≤ 244) (hf : fl ≤ 255) (ht : Tab w) :
    Calls Tryd.prog 26 #[.agg #[.int .i64 (N : Int), .slice a len cap, .int .i64 (fl : Int)]] w fun e w' => e = .returned (aval (sec N m fl)) ∧ Below w.heap.size w w' := by
  have hml := h.hlen
  have hsl := hide (sec_len (N := N) (m := m) (fl := fl) (by omega))
  have hsb := hide (byts_sec (N := N) (fl := fl) h.bytes hf)
  replace h := hide h
  replace ht := hide ht
  go_enter Tryd.func26, Tryd.ntmps26
  go_wp2_with (first
    | (refine wpList_alloc55 rfl rfl ?_; first | (have _q := S1; intro w2 S2 z2 B2; rw [z1] at S2 z2 B2; rw [z1]) | (intro w1 S1 z1 B1; simp only [World.size_alloc] at S1 z1 B1 ⊢)))
  have B0 : Hid (Below w.heap.size w w2) := (((Below.refl _ w).alloc (Nat.le_refl _) _).trans (B1.mono (by omega))).trans (B2.mono (by omega))
  have X2 : Hid (Box3 w2 w.heap.size (.int .i64 (N : Int)) (.slice a len cap) (.int .i64 (fl : Int))) := ((box3_new w _ _ _ 53).kept B1 (by omega)).kept B2 (by omega)
  have R2 : Hid (Sec w2 (w.heap.size + 1) zeros) := S1.kept B2 (by omega)
  replace S2 := hide S2
  clear S1 B1 z1 B2 _q
  have x2 := X2.out.1
  go_region_held3 (fun w' => w'.cell? ⟨w.heap.size, 0, none⟩ = some (.int .i64 (N : Int))) (first | (exact x2) | (exact x3)) (first
    | (go_at_call 32; refine (put_any _ (w.heap.size + 2) 0 4 256 N _ S2.out.drew (by omega) (by omega) (by omega)).mono ?_; rintro e w3 ⟨⟨v3, rfl⟩, S3, z3, B3⟩; have X3 := X2.out.kept (Below.ofdrew B3) (by omega); have x3 := X3.1))
  have T3 : Hid (Below w.heap.size w w3) := B0.out.trans ((Below.ofdrew B3).mono (by omega))
  have R3 : Hid (Sec w3 (w.heap.size + 1) zeros) := R2.out.kept (Below.ofdrew B3) (by omega)
  replace S3 : Hid (Sec w3 (w.heap.size + 2) (L1 N)) := S3
  replace X3 := hide X3
  clear x2 x3 B3 X2 R2 S2 B0 z3 z2
  go_wp2_with fail
  have x3 := X3.out.2.1
  go_region_held3 (fun w' => w'.cell? ⟨w.heap.size, 1, none⟩ = some (.slice a len cap)) (first | (exact x3) | (exact x4)) (first
    | (go_at_call 32; refine (put_any _ (w.heap.size + 2) 4 2 252 len _ S3.out.drew (by omega) (by omega) (by omega)).mono ?_; rintro e w4 ⟨⟨v4, rfl⟩, S4, z4, B4⟩; have X4 := X3.out.kept (Below.ofdrew B4) (by omega); have x4 := X4.2.1))
  have T4 : Hid (Below w.heap.size w w4) := T3.out.trans ((Below.ofdrew B4).mono (by omega))
  have R4 : Hid (Sec w4 (w.heap.size + 1) zeros) := R3.out.kept (Below.ofdrew B4) (by omega)
  rw [← hml] at S4
  replace S4 : Hid (Sec w4 (w.heap.size + 2) (L2 N m)) := S4
  replace X4 := hide X4
  clear x3 x4 B4 X3 R3 S3 T3 z4
  have x4 := X4.out.2.2
  have c4 := S4.out.cell 6 (by omega)
  have f4 := S4.out.frozen 6
  generalize (L2 N m).getD 6 0 = q4 at c4
  go_wp2_with fail
  obtain ⟨w5, hw5, S5, B5⟩ : ∃ w5, w4.setCell ⟨w.heap.size + 1 + 1, 6, none⟩ (Value.int .u8 (fl : Int)) = w5 ∧ Hid (Sec w5 (w.heap.size + 2) (L3 N m fl)) ∧ Below (w.heap.size + 2) w4 w5 :=
    ⟨_, rfl, S4.out.set 6 _ (by omega), (Below.refl _ w4).setCell (p := ⟨w.heap.size + 2, 6, none⟩) (Nat.le_refl _) _⟩
  rw [hw5]
  have T5 : Hid (Below w.heap.size w w5) := T4.out.trans (B5.mono (by omega))
  have R5 : Hid (Sec w5 (w.heap.size + 1) zeros) := R4.out.kept B5 (by omega)
  have X5 := hide (X4.out.kept B5 (by omega))
  have x5 := X5.out.2.1
  have H5 := hide (h.out.kept T5.out (Nat.le_refl _))
  clear hw5 B5 x4 c4 f4 T4 R4 S4 X4
  go_region_held3 (fun w' => w'.cell? ⟨w.heap.size, 1, none⟩ = some (.slice a len cap)) (first | (exact x5) | (exact x6)) (first
    | (refine step_copy55 rfl (.tmp 17) (.tmp 19) rfl (w.heap.size + 2) 7 244 249 rfl _ S5.out.drew a len cap m rfl H5.out.drew hl (by omega) ?_; intro w6 S6 z6 B6; have X6 := X5.out.kept (Below.ofdrew B6) (by omega); have x6 := X6.2.1))
  have T6 : Hid (Below w.heap.size w w6) := T5.out.trans ((Below.ofdrew B6).mono (by omega))
  have R6 : Hid (Sec w6 (w.heap.size + 1) zeros) := R5.out.kept (Below.ofdrew B6) (by omega)
  replace S6 : Hid (Sec w6 (w.heap.size + 2) (L4 N m fl)) := S6
  clear x5 x6 B6 X5 R5 S5 T5 z6 H5 X6
  go_wp2_with fail
  have H6 : Has w6 (some ⟨w.heap.size + 2, 0, none⟩) 251 256 (bodyOf N m fl) := by
    have := S6.out.has 0 251 256 (by omega) (by omega) (by unfold maxLen; omega)
    rwa [L4_take N m fl (by omega)] at this
  have hmore : more 0 (bodyOf N m fl) < 4294967296 := more_lt (by decide) H6.bytes
  have hsum := hide (sum_any _ 251 256 _ w6.drew H6.drew (ht.out.kept T6.out ht.out.pos).drew)
  have hfin := hide (L6_eq N m fl (by omega))
  clear H6
  generalize more 0 (bodyOf N m fl) = q at hmore hsum hfin
  have hq : Hid (IntKind.i64.wrap (q : Int) = (q : Int)) := by show _ = _; rw [IntKind.wrap_i64]; omega
  go_region_held3 (fun _ => True) (first | trivial) (first
    | (go_at_call 33; refine hsum.out.mono ?_; rintro e w7 ⟨rfl, B7⟩)
    | (go_at_call 32; rw [hq.out]; refine (put_any w7 (w.heap.size + 2) 251 4 5 q _ (S6.out.kept (Below.ofdrew B7) S6.out.lt) (by omega) (by omega) (by omega)).mono ?_; rintro e w8 ⟨⟨v8, rfl⟩, S8, z8, B8⟩))
  have B7' : Below (w.heap.size + 2) w6 w7 := (Below.ofdrew B7).mono (Nat.le_of_lt S6.out.lt)
  have T8 : Hid (Below w.heap.size w w8) := (T6.out.trans (B7'.mono (by omega))).trans (B8.mono (by omega))
  have R8 : Hid (Sec w8 (w.heap.size + 1) zeros) := (R6.out.kept B7' (by omega)).kept B8 (by omega)
  replace S8 := hide S8
  have c8 := S8.out.cell 255 (by omega)
  have f8 := S8.out.frozen 255
  generalize List.getD (lay (L4 N m fl) 251 (bytesN q 4)) 255 0 = q8 at c8
  clear B7 B8 B7' hsum T6 R6 S6 z8 hmore
  go_wp2_with (first
    | (refine wpList_load55 rfl (.tmp 3) rfl (w.heap.size + 2) (sec N m fl) rfl (by rw [← hfin.out]; exact S8.out.set 255 255 (by omega)) ?_
       obtain ⟨w9, hw9, R9, T9⟩ : ∃ w9, w8.setCell ⟨w.heap.size + 1 + 1, 255, none⟩ (Value.int .u8 255) = w9 ∧ Sec w9 (w.heap.size + 1) zeros ∧ Below w.heap.size w w9 :=
         ⟨_, rfl, R8.out.kept ((Below.refl (w.heap.size + 2) _).setCell (p := ⟨w.heap.size + 2, 255, none⟩) (Nat.le_refl _) _) (by omega), T8.out.setCell (p := ⟨w.heap.size + 2, 255, none⟩) (by show _ ≤ _ + 2; omega) _⟩
       rw [hw9]; clear hw9; replace R9 := hide R9)
    | (refine wpList_store55 rfl (.tmp 2) (.tmp 27) rfl (w.heap.size + 1) zeros (sec N m fl) rfl rfl hsl.out hsb.out R9.out ?_
       intro w10 z10 S10 B10))
  refine bodyPost_ret (results_cell_row (P := Tryd.prog) rfl _ _ (w.heap.size + 1) 55 _ (0, 0) _ rfl S10.row Tryd.underlying55 rfl (by rw [aval_size S10.len]; exact info55)) rfl ?_
  exact ⟨rfl, T9.trans (B10.mono (by omega))⟩
end Go.Proofs.YtbaclihlckfndaaDoor
