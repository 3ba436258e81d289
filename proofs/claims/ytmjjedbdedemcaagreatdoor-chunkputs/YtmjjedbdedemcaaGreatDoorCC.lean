/-
  Check sums: put, read, sealed, opened.
-/
import Derived.Test.YtmjjedbdedemcaaGreatDoorCB
import Derived.Test.YtmjjedbdedemcaaGreatDoorVB
import Derived.Laws.Tables
import Derived.BigQuiet
import Derived.Deep.QuietTactic
import Derived.WalkSmall
import Derived.Lib.SlBytesConst
namespace Go.Proofs.YtmjjedbdedemcaaGreatDoor
open Go.RowKit
set_option linter.unusedVariables false

/-- An array of n numbers. -/
def arr (t : IntKind) (n : Nat) (f : Nat → Nat) : Array Value := ((List.range n).map (fun j => Value.int t ((f j : Nat) : Int))).toArray
theorem arr_size (t : IntKind) (n : Nat) (f : Nat → Nat) : (arr t n f).size = n := by simp [arr]
theorem arr_get (t : IntKind) (n : Nat) (f : Nat → Nat) (j : Nat) (h : j < n) : (arr t n f)[j]? = some (.int t ((f j : Nat) : Int)) := by simp [arr, h]
theorem arr_set (t : IntKind) (n : Nat) (f : Nat → Nat) (k v : Nat) : (arr t n f).setIfInBounds k (.int t (v : Int)) = arr t n (fun j => if j = k then v else f j) := by
  apply Array.ext
  · simp [arr]
  · intro i h1 h2
    simp only [arr, List.size_toArray, List.length_map, List.length_range] at h2
    by_cases h : k = i
    · subst h; simp [arr]
    · have h' : ¬ i = k := fun e => h e.symm
      simp [arr, h, h']
theorem arr_one (t : IntKind) (n : Nat) (f : Nat → Nat) : (arr t n f).all (·.oneCell') = true := by
  rw [Array.all_eq_true_iff_forall_mem]
  intro v hv
  simp [arr] at hv
  obtain ⟨j, _, rfl⟩ := hv
  rfl
theorem arr_congr (t : IntKind) (n : Nat) {f g : Nat → Nat} (h : ∀ j, j < n → f j = g j) : arr t n f = arr t n g := by
  apply Array.ext
  · simp [arr]
  · intro i h1 h2
    simp only [arr, List.size_toArray, List.length_map, List.length_range] at h2
    simp [arr, h i h2]
/-- The block g has this array. -/
def Arr (w : World) (g : Nat) (ty : TypeId) (t : IntKind) (n : Nat) (f : Nat → Nat) : Prop := w.heap[g]? = some (.cells (arr t n f) ty (0, 0))
theorem Arr.cell {w : World} {g : Nat} {ty : TypeId} {t : IntKind} {n : Nat} {f : Nat → Nat} (h : Arr w g ty t n f) (j : Nat) (hj : j < n) : w.cell? ⟨g, j, none⟩ = some (.int t ((f j : Nat) : Int)) := by
  rw [cell_of_row w g j _ ty (0, 0) h]; exact arr_get t n f j hj
theorem Arr.frozen {w : World} {g : Nat} {ty : TypeId} {t : IntKind} {n : Nat} {f : Nat → Nat} (h : Arr w g ty t n f) (j : Nat) : w.frozen? ⟨g, j, none⟩ = false := frozen_of_row w g j _ ty h
theorem Arr.set {w : World} {g : Nat} {ty : TypeId} {t : IntKind} {n : Nat} {f : Nat → Nat} (h : Arr w g ty t n f) (k v : Nat) : Arr (w.setCell ⟨g, k, none⟩ (.int t (v : Int))) g ty t n (fun j => if j = k then v else f j) := by
  have := heap_setCell_same w g k _ ty (.int t (v : Int)) h
  rwa [arr_set] at this
theorem Arr.other {w : World} {g : Nat} {ty : TypeId} {t : IntKind} {n : Nat} {f : Nat → Nat} (h : Arr w g ty t n f) (a : Addr) (v : Value) (hne : g ≠ a.block) : Arr (w.setCell a v) g ty t n f := (heap_setCell_other w a g v hne).trans h
theorem Arr.alloc {w : World} {g : Nat} {ty : TypeId} {t : IntKind} {n : Nat} {f : Nat → Nat} (h : Arr w g ty t n f) (o : Obj) : Arr (w.alloc o) g ty t n f := (heap_alloc_old w o (Array.getElem?_eq_some_iff.1 h).1).trans h
theorem Arr.lt {w : World} {g : Nat} {ty : TypeId} {t : IntKind} {n : Nat} {f : Nat → Nat} (h : Arr w g ty t n f) : g < w.heap.size := (Array.getElem?_eq_some_iff.1 h).1
theorem arr_new (w : World) (ty : TypeId) (t : IntKind) (n : Nat) (f : Nat → Nat) : Arr (w.alloc (.cells (arr t n f) ty)) w.heap.size ty t n f := heap_alloc_new w _
theorem Arr.setRow {w : World} {g : Nat} {ty : TypeId} {t : IntKind} {n : Nat} {f : Nat → Nat} (h : Arr w g ty t n f) (f' : Nat → Nat) : Arr (w.setRow g (arr t n f')) g ty t n f' := setRow_heap w g _ _ ty _ h
theorem Arr.setRow_other {w : World} {g g' : Nat} {ty : TypeId} {t : IntKind} {n : Nat} {f : Nat → Nat} (h : Arr w g ty t n f) (cs : Array Value) (hne : g ≠ g') : Arr (w.setRow g' cs) g ty t n f := (Go.setRow_other w g' g cs hne).trans h
theorem Arr.kept {w w' : World} {B g : Nat} {ty : TypeId} {t : IntKind} {n : Nat} {f : Nat → Nat} (h : Arr w g ty t n f) (hb : Below B w w') (hg : g < B) : Arr w' g ty t n f := (hb.block g hg).trans h
theorem arr4 (a b c d : Nat) : (#[.int .u8 (a : Int), .int .u8 (b : Int), .int .u8 (c : Int), .int .u8 (d : Int)] : Array Value) = arr .u8 4 (fun j => if j = 0 then a else if j = 1 then b else if j = 2 then c else d) := rfl
theorem info47 : (Tryz.prog.info? 130).map (·.size) = some 4 := by kernel_rfl
theorem below_setRow {B : Nat} {w w' : World} {g : Nat} (h : Below B w w') (hg : B ≤ g) (cs : Array Value) : Below B w (w'.setRow g cs) :=
  ⟨h.os, h.tape, h.output, by rw [size_setRow]; exact h.size, fun k hk => (Go.setRow_other w' g k cs (by omega)).trans (h.block k hk)⟩

/-- The bytes of a sum. -/
def byteOf (s k : Nat) : Nat := s / 2 ^ (8 * k) % 256
theorem byte_cast (s k : Nat) : (s : Int) / 2 ^ (8 * k) % 256 = ((byteOf s k : Nat) : Int) := by
  unfold byteOf; simp [Int.natCast_ediv, Int.natCast_pow]
theorem byte_lt (s k : Nat) : byteOf s k < 256 := Nat.mod_lt _ (by decide)
def sumBytes (s : Nat) : List Int := [(byteOf s 0 : Nat), (byteOf s 1 : Nat), (byteOf s 2 : Nat), (byteOf s 3 : Nat)]

set_option maxHeartbeats 1000000 in
theorem split_any (s : Nat) (hs : s < 4294967296) (w : World) :
    Calls Tryz.prog 73 #[.int .u32 (s : Int)] w fun e w' => e = .returned (.agg (arr .u8 4 (byteOf s))) ∧ Below w.heap.size w w' := by
  go_enter Tryz.func73, Tryz.ntmps73
  go_wp2
  go_loopw [5] (fun i wr => ∃ (k : Nat) (f : Nat → Nat), k ≤ 4 ∧ i = .int .i64 k ∧ Below w.heap.size w wr ∧ Arr wr w.heap.size 130 .u8 4 (fun _ => 0) ∧ Arr wr (w.heap.size + 1) 130 .u8 4 f ∧ Hid (∀ j, j < k → f j = byteOf s j)) (fun i _ => 4 - (intOf i).toNat)
  case atStart =>
    refine ⟨0, fun _ => 0, by omega, rfl, ((Below.refl _ _).alloc (Nat.le_refl _) _).alloc (by simp) _, (arr_new w 130 .u8 4 (fun _ => 0)).alloc _, ?_, fun j hj => by omega⟩
    have := arr_new (w.alloc (.cells (arr .u8 4 (fun _ => 0)) 130)) 130 .u8 4 (fun _ => 0)
    rw [World.size_alloc] at this
    exact this
  case round =>
    obtain ⟨k, f, hk, rfl, hB, hA, hC, hf⟩ := hrel
    by_cases hk4 : k < 4
    · have c1 := hC.cell k hk4
      have c2 := hC.frozen k
      go_wp2
      rw [byte_cast]
      go_roundw
      case rel =>
        refine ⟨k + 1, fun j => if j = k then byteOf s k else f j, by omega, by go_num, hB.setCell (p := ⟨w.heap.size + 1, k, none⟩) (by show w.heap.size ≤ w.heap.size + 1; omega) _, hA.other _ _ (by show w.heap.size ≠ w.heap.size + 1; omega), hC.set k _, fun j hj => ?_⟩
        by_cases e : j = k
        · subst e; simp
        · simp only [e, if_false]; exact hf.out j (by omega)
      case measure => simp [intOf]; omega
    · obtain rfl : k = 4 := by omega
      have hC' : Arr wr (w.heap.size + 1) 130 .u8 4 (byteOf s) := by
        unfold Arr; rw [← arr_congr .u8 4 hf.out]; exact hC
      go_wp2_with (first
        | (refine wpList_load_row rfl 130 (.tmp 3) rfl (w.heap.size + 1) rfl 130 _ (0, 0) _ hC' Tryz.underlying130 rfl (by rw [arr_size]; exact info47) ?_)
        | (refine wpList_store_row rfl 130 (.tmp 2) (.tmp 16) rfl w.heap.size _ rfl rfl 130 _ hA (by rw [arr_size]; exact info47) (by rw [arr_size, arr_size]) (arr_one _ _ _) ?_))
      refine bodyPost_ret (results_cell_row (P := Tryz.prog) rfl _ _ w.heap.size 130 _ (0, 0) _ rfl (hA.setRow _) Tryz.underlying130 rfl (by rw [arr_size]; exact info47)) rfl ?_
      exact ⟨rfl, below_setRow hB (Nat.le_refl _) _⟩
theorem sumBytes_bytes (s : Nat) : ∀ x ∈ sumBytes s, 0 ≤ x ∧ x ≤ 255 := by
  intro x hx
  have h0 := byte_lt s 0
  have h1 := byte_lt s 1
  have h2 := byte_lt s 2
  have h3 := byte_lt s 3
  simp [sumBytes] at hx
  omega
theorem app_bytes {l m : List Int} (hl : ∀ x ∈ l, 0 ≤ x ∧ x ≤ 255) (hm : ∀ x ∈ m, 0 ≤ x ∧ x ≤ 255) : ∀ x ∈ l ++ m, 0 ≤ x ∧ x ≤ 255 := by
  intro x hx
  rcases List.mem_append.1 hx with h | h
  · exact hl x h
  · exact hm x h
theorem sumBytes_eq (s : Nat) (hs : s < 4294967296) : sumBytes s = [(s : Int) % 256, (s : Int) / 256 % 256, (s : Int) / 65536 % 256, (s : Int) / 16777216] := by
  have h : ∀ k, ((byteOf s k : Nat) : Int) = (s : Int) / 2 ^ (8 * k) % 256 := fun k => (byte_cast s k).symm
  simp only [sumBytes, h]
  simp
  omega
/-- The whole of an array of four bytes, as a slice. -/
theorem has_arr {w : World} {g : Nat} {s : Nat} (h : Arr w g 130 .u8 4 (byteOf s)) : Has w (some ⟨g, 0, none⟩) 4 4 (sumBytes s) := by
  refine ⟨rfl, Nat.le_refl _, by unfold maxLen; decide, (fun e => by cases e), fun _ => ⟨g, 0, rfl, h.lt, fun i hi => ?_⟩, sumBytes_bytes s⟩
  have := h.cell i hi
  rw [Nat.zero_add, this]
  rcases i with _ | _ | _ | _ | i
  · rfl
  · rfl
  · rfl
  · rfl
  · omega

theorem owns_monoC {w : World} {base base' : Nat} {v : Value} {n : Nat} {l : List Value} (h : w.ownsRow base 5 1 v n l) (hb : base' ≤ base) : w.ownsRow base' 5 1 v n l := by
  refine ⟨h.1, ?_⟩
  rcases h.2 with h1 | ⟨g, cap, cur, e, hbg, rest⟩
  · exact .inl h1
  · exact .inr ⟨g, cap, cur, e, Nat.le_trans hb hbg, rest⟩

set_option maxHeartbeats 1000000 in
theorem put_any (w : World) (a : Option Addr) (len cap : Nat) (l : List Int) (h : Has w a len cap l) (hb : len ≤ 1099511627776) (s : Nat) (hs : s < 4294967296) :
    Calls Tryz.prog 53 #[.slice a len cap, .int .u32 (s : Int)] w (Ret w (l ++ sumBytes s)) := by
  have hl := hide (app_bytes h.bytes (sumBytes_bytes s))
  go_enter Tryz.func53, Tryz.ntmps53
  go_wp2_with (first
    | (go_at_call 73; refine (split_any s hs _).mono ?_; rintro e w1 ⟨rfl, B1⟩)
    | (refine wpList_store_row rfl 130 (.tmp 5) (.tmp 8) rfl w1.heap.size _ rfl rfl 130 (arr .u8 4 (fun _ => 0)) (arr_new w1 130 .u8 4 (fun _ => 0)) (by rw [arr_size]; exact info47) (by rw [arr_size, arr_size]) (arr_one _ _ _) ?_
       obtain ⟨w2, hw2, A2, B2⟩ : ∃ w2, ((w1.alloc (.cells #[.int .u8 0, .int .u8 0, .int .u8 0, .int .u8 0] 130)).setRow w1.heap.size (arr .u8 4 (byteOf s))) = w2 ∧ Arr w2 w1.heap.size 130 .u8 4 (byteOf s) ∧ Below w.heap.size w w2 := ⟨_, rfl, (arr_new w1 130 .u8 4 (fun _ => 0)).setRow _, below_setRow (B1.alloc B1.size _) B1.size _⟩
       rw [hw2]; clear hw2)
    | (at_make; refine wpList_make2 rfl (.tmp 10) (.tmp 13) rfl len (len + 4) _ _ rfl rfl rfl (by omega) (by omega) (by omega) ?_; intro w3 O3 B3)
    | (refine wpList_copy2 rfl (.tmp 15) (.tmp 16) rfl _ _ len (len + 4) _ rfl O3 a len cap l rfl rfl ((h.kept B2 (Nat.le_refl _)).kept B3 (Nat.le_refl _)) ?_; intro w4 O4 G4; clear O3)
    | (at_builtin; refine wpList_app rfl (.tmp 18) (.tmp 19) rfl w2.heap.size _ len l rfl O4 _ 4 4 (sumBytes s) rfl ?c1 ?c2 ?c3 ?_; rotate_left 3; intro v5 w5 O5 G5))
  case c1 =>
    have h3 := (has_arr A2).kept B3 (Nat.le_refl _)
    have B4 : Below w2.heap.size w3 w4 := (Below.refl _ w3).grown G4 B3.size (fun k hk => by cases hk; exact Nat.le_refl _)
    refine ⟨h3.hlen, h3.le, h3.capb, h3.nil, fun hp => ?_, h3.bytes⟩
    obtain ⟨b, off, e1, e2, e3⟩ := h3.cells hp
    cases e1
    exact ⟨w1.heap.size, 0, rfl, Nat.lt_of_lt_of_le e2 B4.size, fun i hi => (B4.cell (p := ⟨w1.heap.size, 0 + i, none⟩) A2.lt).trans (e3 i hi)⟩
  case c2 => omega
  case c3 => exact Nat.le_trans B3.size G4.size
  go_ret
  have B3' := B2.trans (B3.mono B2.size)
  have B4 := B3'.grown G4 B3'.size (fun k hk => by cases hk; exact B2.size)
  have B5 := B4.grown G5 B4.size (fun k hk => Nat.le_trans B2.size (O4.lt k hk).1)
  exact ret_of_owns (owns_monoC O5 B2.size) hl.out B5

set_option maxHeartbeats 1000000 in
theorem rput_any (w : World) (a : Option Addr) (len cap : Nat) (l : List Int) (h : Has w a len cap l) (hb : len ≤ 1099511627776) (s : Nat) (hs : s < 4294967296) :
    Calls Tryz.prog 46 #[.slice a len cap, .int .u32 (s : Int)] w (Ret w (l ++ sumBytes s)) := by
  have hl := hide (app_bytes h.bytes (sumBytes_bytes s))
  have H := h.kept ((Below.refl w.heap.size w).alloc (Nat.le_refl _) (.cells #[] 5)) (Nat.le_refl _)
  have hB : Below w.heap.size w (w.alloc (.cells #[] 5)) := (Below.refl _ _).alloc (Nat.le_refl _) _
  have O := owns_empty w
  have hQ : Hid (∀ w1 : World, Has (w1.alloc (.cells #[.int .u8 ((s : Int) % 256), .int .u8 ((s : Int) / 256 % 256), .int .u8 ((s : Int) / 65536 % 256), .int .u8 ((s : Int) / 16777216)] 5)) (some ⟨w1.heap.size, 0, none⟩) 4 4 (sumBytes s)) := fun w1 => by
    have := has_lit w1 (sumBytes s) (sumBytes_bytes s) (by show 4 ≤ maxLen; unfold maxLen; decide)
    rw [sumBytes_eq s hs] at this ⊢
    exact this
  clear h
  go_enter Tryz.func46, Tryz.ntmps46
  go_wp2_with (first
    | (at_builtin; refine wpList_app rfl (.tmp 5) (.tmp 6) rfl w.heap.size _ 0 [] rfl O a len cap l rfl H (by omega) (by simp) ?_; intro v1 w1 O1 G1; have O1' := (hide O.lt); clear O)
    | (at_builtin; refine wpList_app rfl (.tmp 7) (.tmp 22) rfl w.heap.size v1 (0 + len) l rfl (by simpa using O1.alloc _) _ 4 4 (sumBytes s) rfl (hQ.out w1) (by omega) ?c3 ?_; rotate_left 1; intro v2 w2 O2 G2))
  case c3 => have := hB.size; have := G1.size; simp at *; omega
  go_ret
  have B1 := hB.grown G1 (by simp) (fun k hk => (O1'.out k hk).1)
  have B2 := (B1.alloc B1.size _).grown G2 (by simp; have := B1.size; omega) (fun k hk => (O1.lt k hk).1)
  exact ret_of_owns (n := 0 + len + 4) (by simpa using O2) hl.out B2

/-- The number that the first k bytes are. -/
def numK (l : List Int) : Nat → Nat
  | 0 => 0
  | k + 1 => numK l k + 2 ^ (8 * k) * (l.getD k 0).toNat
theorem numK_lt {l : List Int} (h : ∀ x ∈ l, 0 ≤ x ∧ x ≤ 255) (k : Nat) (hk : k ≤ l.length) : numK l k < 2 ^ (8 * k) := by
  induction k with
  | zero => exact Nat.one_pos
  | succ k ih =>
    have h1 := ih (by omega)
    have h2 := getD_byteC h k (by omega)
    simp only [numK]
    rw [show 8 * (k + 1) = 8 * k + 8 by omega, Nat.pow_add]
    have h3 : 2 ^ (8 * k) * (l.getD k 0).toNat ≤ 2 ^ (8 * k) * 255 := Nat.mul_le_mul_left _ (by omega)
    omega

theorem or_in {y k : Nat} {c : Int} (hk : k < 4) (hy : y < 2 ^ (8 * k)) (hc : 0 ≤ c ∧ c ≤ 255) : bits .or .u32 (y : Int) (c * 2 ^ (8 * k) % 4294967296) = ((y + 2 ^ (8 * k) * c.toNat : Nat) : Int) := by
  obtain ⟨d, rfl⟩ : ∃ d : Nat, c = d := ⟨c.toNat, by omega⟩
  have hd : d ≤ 255 := by omega
  have hp : 2 ^ (8 * k) ≤ 2 ^ 24 := Nat.pow_le_pow_right (by decide) (by omega)
  have hm : d * 2 ^ (8 * k) ≤ 255 * 2 ^ 24 := Nat.mul_le_mul hd hp
  have e : (d : Int) * 2 ^ (8 * k) % 4294967296 = ((d * 2 ^ (8 * k) : Nat) : Int) := by
    have : (d : Int) * 2 ^ (8 * k) = ((d * 2 ^ (8 * k) : Nat) : Int) := by simp
    rw [this]
    omega
  rw [e, u32_or_nat y (d * 2 ^ (8 * k)) (by omega) (by omega), Nat.or_comm, nat_join (8 * k) (d * 2 ^ (8 * k)) y (Nat.mul_mod_left _ _) hy, Int.toNat_natCast, Nat.add_comm, Nat.mul_comm]

set_option maxHeartbeats 1000000 in
theorem read_any (w : World) (a : Option Addr) (len cap : Nat) (l : List Int) (h : Has w a len cap l) (h4 : 4 ≤ len) :
    Calls Tryz.prog 56 #[.slice a len cap] w fun e w' => e = .returned (.tuple #[.int .u32 (numK l 4 : Nat), .int .i64 0]) ∧ w' = w := by
  have hl := h.hlen
  have hbytes := hide h.bytes
  have hle := h.le
  have hcap := h.capb
  unfold maxLen at hcap
  obtain ⟨b, off, rfl, hb, hc⟩ := h.cells (by omega)
  have hc := hide hc
  clear h
  go_enter Tryz.func56, Tryz.ntmps56
  go_wp2
  go_loop [4, 9] (fun v i => ∃ k y : Nat, k ≤ 4 ∧ i = .int .i64 k ∧ v = .int .u32 (y : Int) ∧ Hid (y = numK l k)) (fun _ i => 4 - (intOf i).toNat)
  case atStart => exact ⟨0, 0, by omega, rfl, rfl, rfl⟩
  case round =>
    obtain ⟨k, y, hk, rfl, rfl, hy⟩ := hrel
    by_cases hk4 : k < 4
    · have hcx := hc.out k (by omega)
      have hby := getD_byteC hbytes.out k (by omega)
      have hor := or_in hk4 (show y < 2 ^ (8 * k) by rw [hy.out]; exact numK_lt hbytes.out k (by omega)) hby
      have hnew : Hid (y + 2 ^ (8 * k) * (l.getD k 0).toNat = numK l (k + 1)) := by rw [hy.out]; rfl
      generalize y + 2 ^ (8 * k) * (l.getD k 0).toNat = z at hor hnew
      generalize l.getD k 0 = c at hcx hby hor
      go_wp2
      go_round
      case rel => exact ⟨k + 1, z, by omega, by go_num, rfl, hnew⟩
      case measure => simp [intOf]; omega
    · obtain rfl : k = 4 := by omega
      have := hy.out
      subst this
      go_wp2
      go_ret2
      exact ⟨rfl, rfl⟩

set_option maxHeartbeats 400000 in
theorem read_short (w : World) (a : Option Addr) (len cap : Nat) (l : List Int) (h : Has w a len cap l) (h4 : len < 4) :
    Calls Tryz.prog 56 #[.slice a len cap] w fun e w' => e = .returned (.tuple #[.int .u32 0, .int .i64 7]) ∧ w' = w := by
  have h4' : (len : Int) < 4 := by omega
  clear h
  go_enter Tryz.func56, Tryz.ntmps56
  go_wp2
  go_ret2
  exact ⟨rfl, rfl⟩

set_option maxHeartbeats 400000 in
theorem rread_short (w : World) (a : Option Addr) (len cap : Nat) (l : List Int) (h : Has w a len cap l) (h4 : len < 4) :
    Calls Tryz.prog 60 #[.slice a len cap] w fun e w' => e = .returned (.tuple #[.int .u32 0, .int .i64 7]) ∧ w' = w := by
  have h4' : (len : Int) < 4 := by omega
  clear h
  go_enter Tryz.func60, Tryz.ntmps60
  go_wp2
  go_ret2
  exact ⟨rfl, rfl⟩

set_option maxHeartbeats 1000000 in
theorem rread_any (w : World) (a : Option Addr) (len cap : Nat) (l : List Int) (h : Has w a len cap l) (h4 : 4 ≤ len) :
    Calls Tryz.prog 60 #[.slice a len cap] w fun e w' => e = .returned (.tuple #[.int .u32 (numK l 4 : Nat), .int .i64 0]) ∧ Below w.heap.size w w' := by
  have hl := h.hlen
  have hle := h.le
  have hcap := h.capb
  unfold maxLen at hcap
  have hcap' : (cap : Int) ≤ 9223372036854775807 := by omega
  have h4' : (4 : Int) ≤ (len : Int) := by omega
  obtain ⟨b, off, rfl, hb, hc⟩ := h.cells (by omega)
  have c0 := hc 0 (by omega)
  rw [Nat.add_zero] at c0
  have i0 : (0 : Int) < (len : Int) := by omega
  have i1 : (1 : Int) < (len : Int) := by omega
  have i2 : (2 : Int) < (len : Int) := by omega
  have i3 : (3 : Int) < (len : Int) := by omega
  have n0 : 0 < len := by omega
  have n1 : 1 < len := by omega
  have n2 : 2 < len := by omega
  have n3 : 3 < len := by omega
  have c1 := hc 1 (by omega)
  have c2 := hc 2 (by omega)
  have c3 := hc 3 (by omega)
  have b0 := getD_byteC h.bytes 0 (by omega)
  have b1 := getD_byteC h.bytes 1 (by omega)
  have b2 := getD_byteC h.bytes 2 (by omega)
  have b3 := getD_byteC h.bytes 3 (by omega)
  have hn : Hid (((numK l 4 : Nat) : Int) = l.getD 0 0 + 256 * l.getD 1 0 + 65536 * l.getD 2 0 + 16777216 * l.getD 3 0) := by
    show ((numK l 4 : Nat) : Int) = _
    have e : numK l 4 = (l.getD 0 0).toNat + 256 * (l.getD 1 0).toNat + 65536 * (l.getD 2 0).toNat + 16777216 * (l.getD 3 0).toNat := by
      simp only [numK, Nat.reduceMul, Nat.reducePow, Nat.one_mul, Nat.zero_add]
    rw [e]
    omega
  generalize l.getD 0 0 = x0 at *
  generalize l.getD 1 0 = x1 at *
  generalize l.getD 2 0 = x2 at *
  generalize l.getD 3 0 = x3 at *
  clear h hc
  go_enter Tryz.func60, Tryz.ntmps60
  go_wp2_with fail
  go_quiet (fail)
  go_wp2
  go_ret2
  exact ⟨by rw [hn.out]; rfl, below_drewN (Below.refl _ _) _⟩

set_option maxHeartbeats 400000 in
theorem sealed_any (w : World) (a : Option Addr) (len cap : Nat) (l : List Int) (h : Has w a len cap l) (hb : len ≤ 1099511627776) (ht : Tab w) :
    Calls Tryz.prog 32 #[.slice a len cap] w (Ret w (l ++ sumBytes (more 0 l))) := by
  have hm := hide (sum_any a len cap l w h ht)
  have hp : Hid (∀ w1, Below w.heap.size w w1 → Calls Tryz.prog 53 #[.slice a len cap, .int .u32 (more 0 l : Nat)] w1 (Ret w1 (l ++ sumBytes (more 0 l)))) := fun w1 B1 => put_any w1 a len cap l (h.kept B1 (Nat.le_refl _)) hb _ (more_lt (by decide) h.bytes)
  clear h ht
  go_enter Tryz.func32, Tryz.ntmps32
  go_wp2_with fail
  refine hm.out.mono ?_
  rintro e w1 ⟨rfl, B1⟩
  go_wp2_with fail
  refine (hp.out w1 B1).mono ?_
  rintro e w2 ⟨a2, n2, c2, rfl, H2, B2, O2⟩
  go_wp2
  go_ret
  exact ⟨a2, n2, c2, rfl, H2, B1.trans (B2.mono B1.size), owns_monoC O2 B1.size⟩

set_option maxHeartbeats 400000 in
theorem rsealed_any (w : World) (a : Option Addr) (len cap : Nat) (l : List Int) (h : Has w a len cap l) (hb : len ≤ 1099511627776) :
    Calls Tryz.prog 24 #[.slice a len cap] w (Ret w (l ++ sumBytes (more 0 l))) := by
  have hm := hide (rsum_any a len cap l w h)
  have hp := hide (rput_any w a len cap l h hb _ (more_lt (s := 0) (by decide) h.bytes))
  clear h
  go_enter Tryz.func24, Tryz.ntmps24
  go_wp2_with fail
  refine hm.out.mono ?_
  rintro e w1 ⟨rfl, rfl⟩
  go_wp2_with fail
  refine hp.out.mono ?_
  rintro e w2 ⟨a2, n2, c2, rfl, H2, B2, O2⟩
  go_wp2
  go_ret
  exact ⟨a2, n2, c2, rfl, H2, B2, O2⟩
theorem wpList_copy3 {w : World} {ops : Array Oper} {rest : List Oper} {o : Oper} {a : Act} {Q : Exit → Act → World → Prop} (hgd : o.guard = none) (d s : Operand)
    (ho : o.op = .call { callee := .builtin .copy, args := #[d, s], argTypes := #[24, 24] })
    (base g n c : Nat) (xs : List Int) (hd : a.eval d = .slice (some ⟨g, 0, none⟩) n c) (hown : w.ownsRow base 5 1 (.slice (some ⟨g, 0, none⟩) n c) n (xs.map (Value.int .u8)))
    (sa : Option Addr) (m scap : Nat) (l : List Int) (hs : a.eval s = .slice sa m scap) (hm : n ≤ m) (hh : Has w sa m scap l)
    (h : ∀ w', w'.ownsRow base 5 1 (.slice (some ⟨g, 0, none⟩) n c) n ((l.take n).map (Value.int .u8)) → w.grownBy w' (some g) → wpList Tryz.prog ops Q rest (a.put o.dst (goInt n)) w') :
    wpList Tryz.prog ops Q (o :: rest) a w := by
  have hsz : (Tryz.prog.info? 5).map (·.size) = some 1 := by
    obtain ⟨i0, hi, hz0, hz1, hz2⟩ := info_parts info5
    simp [hi, hz1]
  by_cases h0 : n = 0
  · subst h0
    obtain rfl : xs = [] := List.eq_nil_of_length_eq_zero (by simpa using hown.1)
    exact wpList_copy_nothing hgd d s 24 24 ho 5 Tryz.underlying24 hsz _ _ 0 c m scap hd hs (by simp) (h w (by simpa using hown) (World.grownBy.refl w _))
  · obtain ⟨b, off, rfl, e2, e3⟩ := cells_of_has (hh.front n hm) (by omega)
    rcases hown.2 with ⟨h1, h2⟩ | ⟨g', cap, cur, hv, hbg, hg, hnc, hcm, hcs, htake⟩
    · omega
    · cases hv
      have hl : ((l.take n).map (Value.int .u8)).length = n := by have := hh.hlen; simp; omega
      have key := wpList_copy_own (P := Tryz.prog) (Q := Q) (ops := ops) (rest := rest) hgd d s 24 24 ho 5 Tryz.underlying24 hsz g 0 n c ⟨b, off, none⟩ m scap hd hs cur 5 hg ((l.take n).map (Value.int .u8)) (by rw [hl]; exact (Nat.min_eq_right hm).symm) e3 (by rw [hl]; omega) (ints_oneCell _ _)
      rw [hl] at key
      refine key (h _ ⟨by rw [hl]; omega, .inr ⟨g, c, _, rfl, hbg, setRow_heap w g cur _ 5 _ hg, hnc, hcm, ?_, ?_⟩⟩ ⟨rfl, rfl, rfl, by simp, fun k _ hk => setRow_other w g k _ (fun e => hk (by simp [e]))⟩)
      · have := hh.hlen; simp; omega
      · have hmin : min n l.length = n := by have := hh.hlen; omega
        simp [hmin]

/-- What is opened is none, and false. -/
def None2 (w : World) (e : Ending) (w' : World) : Prop := e = .returned (.tuple #[.slice none 0 0, .bool false]) ∧ Below w.heap.size w w'
/-- A slice and true come out. -/
def Some2 (w : World) (l : List Int) (e : Ending) (w' : World) : Prop := ∃ a n cap, e = .returned (.tuple #[.slice a n cap, .bool true]) ∧ Has w' a n cap l ∧ Below w.heap.size w w'

set_option maxHeartbeats 1000000 in
theorem open_short (w : World) (a : Option Addr) (len cap : Nat) (l : List Int) (h : Has w a len cap l) (h4 : len < 4) :
    Calls Tryz.prog 34 #[.slice a len cap] w (None2 w) := by
  have h4' : (len : Int) < 4 := by omega
  have hr := hide (read_short w a len cap l h h4)
  have hle := h.le
  have hcap := h.capb
  unfold maxLen at hcap
  go_enter Tryz.func34, Tryz.ntmps34
  go_wp2_with fail
  refine hr.out.mono ?_
  rintro e w1 ⟨rfl, rfl⟩
  go_wp2
  go_ret2
  exact ⟨rfl, Below.refl _ _⟩

set_option maxHeartbeats 1000000 in
theorem open_not (w : World) (a : Option Addr) (len cap : Nat) (l : List Int) (h : Has w a len cap l) (n : Nat) (hn : len = n + 4) (ht : Tab w) (he : numK (l.drop n) 4 ≠ more 0 (l.take n)) :
    Calls Tryz.prog 34 #[.slice a len cap] w (None2 w) := by
  subst hn
  obtain ⟨b, off, rfl, hb, hc⟩ := h.cells (by omega)
  have hle := h.le
  have hcap := h.capb
  unfold maxLen at hcap
  have hr := read_any w _ _ _ _ (h.cut n (by omega)) (by omega)
  simp only [Option.map_some, add_plain, Nat.add_sub_cancel_left] at hr
  have hr := hide hr
  have hs := hide (sum_any _ n cap _ w (h.front n (by omega)) ht)
  have q : (((numK (l.drop n) 4 : Nat) : Int) != ((more 0 (l.take n) : Nat) : Int)) = true := by rw [bne_iff_ne]; omega
  clear hc
  generalize numK (l.drop n) 4 = x at *
  generalize more 0 (l.take n) = y at *
  go_enter Tryz.func34, Tryz.ntmps34
  go_wp2_with fail
  refine hr.out.mono ?_
  rintro e w1 ⟨rfl, rfl⟩
  go_wp2_with fail
  refine hs.out.mono ?_
  rintro e w2 ⟨rfl, B2⟩
  go_wp2
  go_ret2
  exact ⟨rfl, B2⟩

set_option maxHeartbeats 1000000 in
theorem open_any (w : World) (a : Option Addr) (len cap : Nat) (l : List Int) (h : Has w a len cap l) (hb : len ≤ 1099511627776) (n : Nat) (hn : len = n + 4) (ht : Tab w) (he : numK (l.drop n) 4 = more 0 (l.take n)) :
    Calls Tryz.prog 34 #[.slice a len cap] w (Some2 w (l.take n)) := by
  subst hn
  obtain ⟨b, off, rfl, hb, hc⟩ := h.cells (by omega)
  have hle := h.le
  have hcap := h.capb
  unfold maxLen at hcap
  have hr := read_any w _ _ _ _ (h.cut n (by omega)) (by omega)
  simp only [Option.map_some, add_plain, Nat.add_sub_cancel_left] at hr
  rw [he] at hr
  have hr := hide hr
  have hs := hide (sum_any _ n cap _ w (h.front n (by omega)) ht)
  have hl := hide (take_bytes h.bytes n)
  clear hc he
  generalize more 0 (l.take n) = y at *
  go_enter Tryz.func34, Tryz.ntmps34
  go_wp2_with fail
  refine hr.out.mono ?_
  rintro e w1 ⟨rfl, rfl⟩
  go_wp2_with fail
  refine hs.out.mono ?_
  rintro e w2 ⟨rfl, B2⟩
  go_wp2_with (first
    | (at_make; refine wpList_make2 rfl (.tmp 29) (.tmp 29) rfl n n _ _ rfl rfl rfl rfl (by omega) (by omega) ?_; intro w3 O3 B3)
    | (refine wpList_copy3 rfl (.tmp 31) (.tmp 32) rfl _ _ n n _ rfl O3 _ (n + 4) cap l rfl (by omega) ((h.kept B2 (Nat.le_refl _)).kept B3 (Nat.le_refl _)) ?_; intro w4 O4 G4; clear O3))
  have B3' := B2.trans (B3.mono B2.size)
  have B4 := B3'.grown G4 B3'.size (fun k hk => by cases hk; exact B2.size)
  obtain ⟨a4, c4, e4, H4⟩ := has_of_owns O4 hl.out
  rw [e4]
  go_wp2
  go_ret2
  exact ⟨_, _, _, rfl, H4, B4⟩
set_option maxHeartbeats 1000000 in
theorem ropen_short (w : World) (a : Option Addr) (len cap : Nat) (l : List Int) (h : Has w a len cap l) (h4 : len < 4) :
    Calls Tryz.prog 37 #[.slice a len cap] w (None2 w) := by
  have h4' : (len : Int) < 4 := by omega
  have hle := h.le
  have hcap := h.capb
  unfold maxLen at hcap
  go_enter Tryz.func37, Tryz.ntmps37
  go_wp2
  go_ret2
  exact ⟨rfl, Below.refl _ _⟩

set_option maxHeartbeats 1000000 in
theorem ropen_not (w : World) (a : Option Addr) (len cap : Nat) (l : List Int) (h : Has w a len cap l) (n : Nat) (hn : len = n + 4) (he : numK (l.drop n) 4 ≠ more 0 (l.take n)) :
    Calls Tryz.prog 37 #[.slice a len cap] w (None2 w) := by
  subst hn
  obtain ⟨b, off, rfl, hb, hc⟩ := h.cells (by omega)
  have hle := h.le
  have hcap := h.capb
  unfold maxLen at hcap
  have hr := rread_any w _ _ _ _ (h.cut n (by omega)) (by omega)
  simp only [Option.map_some, add_plain, Nat.add_sub_cancel_left] at hr
  have hr := hide hr
  have hs : Hid (∀ w1, Below w.heap.size w w1 → Calls Tryz.prog 47 #[.slice (some ⟨b, off, none⟩) n cap] w1 fun e w' => e = .returned (.int .u32 (more 0 (l.take n) : Nat)) ∧ w' = w1) := fun w1 B1 => rsum_any _ n cap _ w1 ((h.front n (by omega)).kept B1 (Nat.le_refl _))
  have q : (((numK (l.drop n) 4 : Nat) : Int) != ((more 0 (l.take n) : Nat) : Int)) = true := by rw [bne_iff_ne]; omega
  clear hc
  generalize numK (l.drop n) 4 = x at *
  generalize more 0 (l.take n) = y at *
  go_enter Tryz.func37, Tryz.ntmps37
  go_wp2_with fail
  refine hr.out.mono ?_
  rintro e w1 ⟨rfl, B1⟩
  go_wp2_with fail
  refine (hs.out _ B1).mono ?_
  rintro e w2 ⟨rfl, rfl⟩
  go_wp2
  go_ret2
  exact ⟨rfl, B1⟩

set_option maxHeartbeats 1000000 in
theorem ropen_any (w : World) (a : Option Addr) (len cap : Nat) (l : List Int) (h : Has w a len cap l) (hb : len ≤ 1099511627776) (n : Nat) (hn : len = n + 4) (he : numK (l.drop n) 4 = more 0 (l.take n)) :
    Calls Tryz.prog 37 #[.slice a len cap] w (Some2 w (l.take n)) := by
  subst hn
  obtain ⟨b, off, rfl, hb, hc⟩ := h.cells (by omega)
  have hle := h.le
  have hcap := h.capb
  unfold maxLen at hcap
  have hr := rread_any w _ _ _ _ (h.cut n (by omega)) (by omega)
  simp only [Option.map_some, add_plain, Nat.add_sub_cancel_left] at hr
  rw [he] at hr
  have hr := hide hr
  have hs : Hid (∀ w1, Below w.heap.size w w1 → Calls Tryz.prog 47 #[.slice (some ⟨b, off, none⟩) n cap] w1 fun e w' => e = .returned (.int .u32 (more 0 (l.take n) : Nat)) ∧ w' = w1) := fun w1 B1 => rsum_any _ n cap _ w1 ((h.front n (by omega)).kept B1 (Nat.le_refl _))
  have hl := hide (take_bytes h.bytes n)
  have hf := hide (h.front n (by omega))
  clear hc he
  generalize more 0 (l.take n) = y at *
  go_enter Tryz.func37, Tryz.ntmps37
  go_wp2_with fail
  refine hr.out.mono ?_
  rintro e w1 ⟨rfl, B1⟩
  go_wp2_with fail
  refine (hs.out _ B1).mono ?_
  rintro e w2 ⟨rfl, rfl⟩
  have O := owns_empty w2
  have hB : Below w2.heap.size w2 (w2.alloc (.cells #[] 5)) := (Below.refl _ _).alloc (Nat.le_refl _) _
  have H := (hf.out.kept B1 (Nat.le_refl _)).kept hB (Nat.le_refl _)
  go_wp2_with (at_builtin; refine wpList_app rfl (.tmp 26) (.tmp 29) rfl w2.heap.size _ 0 [] rfl O _ n cap (l.take n) rfl H (by omega) (by simp) ?_; intro v4 w4 O4 G4)
  obtain ⟨a4, c4, e4, H4⟩ := has_of_owns (l := l.take n) (n := 0 + n) (by simpa using O4) hl.out
  subst e4
  have B4 := hB.grown G4 (by simp) (fun k hk => (O.lt k hk).1)
  go_ret2
  exact ⟨_, _, _, rfl, H4, B1.trans (B4.mono B1.size)⟩

theorem numK_sum {s : Nat} (h : s < 4294967296) : numK (sumBytes s) 4 = s := by
  simp only [numK, sumBytes, List.getD_cons_zero, List.getD_cons_succ, Int.toNat_natCast, byteOf, Nat.reduceMul, Nat.reducePow]
  omega
/-- What was sealed is opened. -/
theorem open_sealed (w : World) (a : Option Addr) (len cap : Nat) (l : List Int) (h : Has w a len cap (l ++ sumBytes (more 0 l))) (hl : ∀ x ∈ l, 0 ≤ x ∧ x ≤ 255) (hb : len ≤ 1099511627776) (ht : Tab w) :
    Calls Tryz.prog 34 #[.slice a len cap] w (Some2 w l) := by
  have hn := h.hlen
  rw [List.length_append, show (sumBytes (more 0 l)).length = 4 from rfl] at hn
  have := open_any w a len cap _ h hb l.length hn.symm ht (by
    rw [List.drop_left, List.take_left, numK_sum (more_lt (by decide) hl)])
  rwa [List.take_left] at this

theorem nine : more 0 [49, 50, 51, 52, 53, 54, 55, 56, 57] = 3808858755 := by decide +kernel
theorem str_ab : strOfNums [97, 98] = ⟨#[97, 98]⟩ := rfl

theorem has_mark (w : World) (xs : List Int) (fr : Nat × Nat) (hb : ∀ x ∈ xs, 0 ≤ x ∧ x ≤ 255) (hm : xs.length ≤ maxLen) : Has (w.alloc (.cells (xs.map (Value.int .u8)).toArray 5 fr)) (some ⟨w.heap.size, 0, none⟩) xs.length xs.length xs := by
  refine ⟨rfl, Nat.le_refl _, hm, (fun h => by cases h), fun _ => ⟨w.heap.size, 0, rfl, by simp, fun i hi => ?_⟩, hb⟩
  have e := cell_of_row (w.alloc (.cells (xs.map (Value.int .u8)).toArray 5 fr)) w.heap.size (0 + i) _ 5 fr (heap_alloc_new w _)
  rw [e]
  simp [List.getElem?_eq_getElem hi]

end Go.Proofs.YtmjjedbdedemcaaGreatDoor
