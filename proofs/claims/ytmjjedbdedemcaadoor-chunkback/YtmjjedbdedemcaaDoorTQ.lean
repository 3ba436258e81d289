/-
  Lists of samples merged and cut to a range: mathematics; rising samples.
-/
import Derived.Test.YtmjjedbdedemcaaDoorTO
namespace Go.Proofs.YtmjjedbdedemcaaDoor
open Go.RowKit
set_option linter.unusedVariables false
set_option linter.unusedSimpArgs false

/-- The times rise. -/
def Up : List Smp → Prop
  | [] => True
  | x :: r => (∀ y ∈ r, x.1 < y.1) ∧ Up r
theorem up_app {L : List Smp} {s : Smp} (h : Up L) (hs : ∀ x ∈ L, x.1 < s.1) : Up (L ++ [s]) := by
  induction L with
  | nil => exact ⟨(fun y hy => by cases hy), trivial⟩
  | cons x r ih =>
    refine ⟨fun y hy => ?_, ih h.2 (fun z hz => hs z (by simp [hz]))⟩
    rcases List.mem_append.1 hy with hy | hy
    · exact h.1 y hy
    · simp at hy; subst hy; exact hs x (by simp)
/-- Two lists merged. -/
def mrg : List Smp → List Smp → List Smp
  | [], b => b
  | x :: a, [] => x :: a
  | x :: a, y :: b => if x.1 < y.1 then x :: mrg a (y :: b) else if y.1 < x.1 then y :: mrg (x :: a) b else mrg a (y :: b)
termination_by a b => a.length + b.length
theorem mrg_nil (a : List Smp) : mrg a [] = a := by cases a <;> simp [mrg]
theorem mrg_nil' (b : List Smp) : mrg [] b = b := by simp [mrg]
theorem mrg_lt {x y : Smp} {a b : List Smp} (h : x.1 < y.1) : mrg (x :: a) (y :: b) = x :: mrg a (y :: b) := by rw [mrg, if_pos h]
theorem mrg_gt {x y : Smp} {a b : List Smp} (h : y.1 < x.1) : mrg (x :: a) (y :: b) = y :: mrg (x :: a) b := by rw [mrg, if_neg (by omega), if_pos h]
theorem mrg_eq {x y : Smp} {a b : List Smp} (h : x.1 = y.1) : mrg (x :: a) (y :: b) = mrg a (y :: b) := by rw [mrg, if_neg (by omega), if_neg (by omega)]
theorem mrg_len : ∀ a b : List Smp, (mrg a b).length ≤ a.length + b.length
  | [], b => by simp [mrg]
  | x :: a, [] => by simp [mrg]
  | x :: a, y :: b => by
    rcases Int.lt_trichotomy x.1 y.1 with h | h | h
    · rw [mrg_lt h]; have := mrg_len a (y :: b); simp only [List.length_cons] at *; omega
    · rw [mrg_eq h]; have := mrg_len a (y :: b); simp only [List.length_cons] at *; omega
    · rw [mrg_gt h]; have := mrg_len (x :: a) b; simp only [List.length_cons] at *; omega
termination_by a b => a.length + b.length
theorem mrg_mem : ∀ (a b : List Smp) (z : Smp), z ∈ mrg a b → z ∈ a ∨ z ∈ b
  | [], b, z, h => by rw [mrg_nil'] at h; exact .inr h
  | x :: a, [], z, h => by rw [mrg_nil] at h; exact .inl h
  | x :: a, y :: b, z, h => by
    rcases Int.lt_trichotomy x.1 y.1 with h1 | h1 | h1
    · rw [mrg_lt h1] at h
      rcases List.mem_cons.1 h with rfl | h
      · simp
      · rcases mrg_mem a (y :: b) z h with h | h
        · simp [h]
        · exact .inr h
    · rw [mrg_eq h1] at h
      rcases mrg_mem a (y :: b) z h with h | h
      · simp [h]
      · exact .inr h
    · rw [mrg_gt h1] at h
      rcases List.mem_cons.1 h with rfl | h
      · simp
      · rcases mrg_mem (x :: a) b z h with h | h
        · exact .inl h
        · simp [h]
termination_by a b => a.length + b.length
theorem mrg_in : ∀ (a b : List Smp) (z : Smp), z ∈ b → z ∈ mrg a b
  | [], b, z, h => by rw [mrg_nil']; exact h
  | x :: a, [], z, h => by cases h
  | x :: a, y :: b, z, h => by
    rcases Int.lt_trichotomy x.1 y.1 with h1 | h1 | h1
    · rw [mrg_lt h1]; simp [mrg_in a (y :: b) z h]
    · rw [mrg_eq h1]; exact mrg_in a (y :: b) z h
    · rw [mrg_gt h1]
      rcases List.mem_cons.1 h with rfl | h
      · simp
      · simp [mrg_in (x :: a) b z h]
termination_by a b => a.length + b.length
theorem mrg_up : ∀ (a b : List Smp), Up a → Up b → Up (mrg a b)
  | [], b, _, hb => by rw [mrg_nil']; exact hb
  | x :: a, [], ha, _ => by rw [mrg_nil]; exact ha
  | x :: a, y :: b, ha, hb => by
    rcases Int.lt_trichotomy x.1 y.1 with h1 | h1 | h1
    · rw [mrg_lt h1]
      refine ⟨fun z hz => ?_, mrg_up a (y :: b) ha.2 hb⟩
      rcases mrg_mem a (y :: b) z hz with hz | hz
      · exact ha.1 z hz
      · rcases List.mem_cons.1 hz with rfl | hz
        · exact h1
        · have := hb.1 z hz; omega
    · rw [mrg_eq h1]; exact mrg_up a (y :: b) ha.2 hb
    · rw [mrg_gt h1]
      refine ⟨fun z hz => ?_, mrg_up (x :: a) b ha hb.2⟩
      rcases mrg_mem (x :: a) b z hz with hz | hz
      · rcases List.mem_cons.1 hz with rfl | hz
        · exact h1
        · have := ha.1 z hz; omega
      · exact hb.1 z hz
termination_by a b => a.length + b.length
theorem mrg_head {M b : List Smp} {y : Smp} (h : ∀ z ∈ M, y.1 < z.1) : mrg M (y :: b) = y :: mrg M b := by
  cases M with
  | nil => rw [mrg_nil', mrg_nil']
  | cons x M => rw [mrg_gt (h x (by simp))]
/-- Merged with what it has a list stays. -/
theorem mrg_stays : ∀ (M b : List Smp), Up M → Up b → (∀ y ∈ b, y ∈ M) → mrg M b = M
  | M, [], _, _, _ => mrg_nil M
  | [], y :: b, _, _, h => absurd (h y (by simp)) (by simp)
  | x :: M, y :: b, hM, hb, h => by
    rcases List.mem_cons.1 (h y (by simp)) with rfl | hy
    · rw [mrg_eq rfl, mrg_head hM.1]
      rw [mrg_stays M b hM.2 hb.2 (fun z hz => ?_)]
      rcases List.mem_cons.1 (h z (by simp [hz])) with rfl | hz'
      · have := hb.1 _ hz; omega
      · exact hz'
    · have hxy := hM.1 y hy
      rw [mrg_lt hxy, mrg_stays M (y :: b) hM.2 hb (fun z hz => ?_)]
      rcases List.mem_cons.1 (h z hz) with rfl | hz'
      · rcases List.mem_cons.1 hz with rfl | hz2
        · omega
        · have := hb.1 _ hz2; omega
      · exact hz'
def inR (f t : Int) (s : Smp) : Bool := decide (f ≤ s.1 ∧ s.1 ≤ t)
theorem parts_all : ∀ (M : List Smp) (c m : Int), Up M → (∀ s ∈ M, 0 ≤ s.1 ∧ s.1 ≤ m) → M.filter (inR 0 c) ++ M.filter (inR (c + 1) m) = M
  | [], _, _, _, _ => rfl
  | x :: M, c, m, hM, hb => by
    have ih := parts_all M c m hM.2 (fun s hs => hb s (by simp [hs]))
    obtain ⟨h0, h1⟩ := hb x (by simp)
    by_cases hc : x.1 ≤ c
    · have e1 : inR 0 c x = true := by simp [inR, h0, hc]
      have e2 : inR (c + 1) m x = false := by simp [inR]; omega
      rw [List.filter_cons_of_pos e1, List.filter_cons_of_neg (by simp [e2]), List.cons_append, ih]
    · have e1 : inR 0 c x = false := by simp [inR]; omega
      have e2 : inR (c + 1) m x = true := by simp [inR]; omega
      have e3 : M.filter (inR 0 c) = [] := List.filter_eq_nil_iff.2 (fun z hz => by have := hM.1 z hz; simp [inR]; omega)
      rw [e3, List.nil_append] at ih
      rw [List.filter_cons_of_neg (by simp [e1]), e3, List.nil_append, List.filter_cons_of_pos e2, ih]

/-- Numbers in memory. -/
structure HasN (w : World) (a : Option Addr) (len cap : Nat) (l : List Int) : Prop where
  hlen : l.length = len
  le : len ≤ cap
  capb : cap ≤ maxLen
  cells : 0 < len → ∃ b off, a = some ⟨b, off, none⟩ ∧ b < w.heap.size ∧ ∀ i, i < len → w.cell? ⟨b, off + i, none⟩ = some (.int .i64 (l.getD i 0))
  range : ∀ i, -9223372036854775808 ≤ l.getD i 0 ∧ l.getD i 0 ≤ 9223372036854775807
theorem HasN.kept {w w' : World} {a : Option Addr} {len cap : Nat} {l : List Int} {B : Nat} (h : HasN w a len cap l) (hb : Below B w w') (hB : w.heap.size ≤ B) : HasN w' a len cap l := by
  refine ⟨h.hlen, h.le, h.capb, fun hp => ?_, h.range⟩
  obtain ⟨b, off, e1, e2, e3⟩ := h.cells hp
  exact ⟨b, off, e1, Nat.lt_of_lt_of_le e2 hb.size, fun i hi => (hb.cell (p := ⟨b, off + i, none⟩) (Nat.lt_of_lt_of_le e2 hB)).trans (e3 i hi)⟩
theorem hasU_nil (w : World) : HasU w none 0 0 [] := ⟨rfl, Nat.le_refl _, Nat.zero_le _, fun h => by omega, fun x hx => by cases hx⟩
theorem among_ex (x : Int) (n : Nat) (N : Int) (hN : N = (n : Int)) (hx : -9223372036854775808 ≤ x ∧ x ≤ 9223372036854775807) (h1 : 1 ≤ n) (h2 : n ≤ 9223372036854775807) : ∃ m : Nat, m < n ∧ ∀ w, Calls Tryd.prog 16 #[.int .i64 x, .int .i64 N] w fun e w' => e = .returned (.int .i64 (m : Int)) ∧ w' = w :=
  ⟨amg x n, amg_lt x n h1, fun w => by rw [hN]; exact among_any x n hx h1 h2 w⟩
/-- What rising hands out. -/
def Rising (w : World) (n : Nat) (e : Ending) (w' : World) : Prop :=
  ∃ (R : List Sm) (a : Option Addr) (cap : Nat), e = .returned (.slice a n cap) ∧ R.length = n ∧ Up (R.map up) ∧ (∀ s ∈ R, s.1 ≤ 40000000) ∧ HasS w' a n cap (R.map up) ∧ Below w.heap.size w w'
theorem up_snoc {R : List Sm} {s : Sm} (h : Up (R.map up)) (hs : ∀ x ∈ R, x.1 < s.1) : Up ((R ++ [s]).map up) := by
  rw [List.map_append]
  refine up_app h (fun x hx => ?_)
  obtain ⟨y, hy, rfl⟩ := List.mem_map.1 hx
  have := hs y hy
  simp only [up]; omega
/-- What holds between rounds of rising. -/
structure RisI (w : World) (k t : Nat) (R : List Sm) (ao : Option Addr) (co : Nat) (wr : World) : Prop where
  len : R.length = k
  asc : Up (R.map up)
  lt : ∀ s ∈ R, s.1 < t
  tb : t ≤ 1000000 + 100000 * k
  vb : ∀ s ∈ R.map up, s.2 < 18446744073709551616
  own : wr.ownsRow w.heap.size 50 2 (.slice ao k co) k (flat (R.map up))
  bel : Below w.heap.size w wr
theorem RisI.more {w : World} {k t : Nat} {R : List Sm} {ao : Option Addr} {co : Nat} {wr w2 : World} (h : RisI w k t R ao co wr) {x d : Nat} (hx : x < 18446744073709551616) (hd : d < 100000) {a3 : Option Addr} {c3 : Nat}
    (O : w2.ownsRow w.heap.size 50 2 (.slice a3 (k + 1) c3) (k + 1) (flat (R.map up ++ [((t : Int), x)]))) (B : Below w.heap.size w w2) : RisI w (k + 1) (t + (1 + d)) (R ++ [(t, x)]) a3 c3 w2 := by
  refine ⟨by simp [h.len], up_snoc h.asc (fun y hy => h.lt y hy), fun s hs => ?_, by have := h.tb; omega, fun s hs => ?_, by rw [List.map_append]; exact O, B⟩
  · rcases List.mem_append.1 hs with hs | hs
    · have := h.lt s hs; omega
    · simp at hs; subst hs; simp only; omega
  · rw [List.map_append] at hs
    rcases List.mem_append.1 hs with hs | hs
    · exact h.vb s hs
    · simp at hs; subst hs; exact hx

set_option maxRecDepth 100000 in
set_option maxHeartbeats 4000000 in
theorem rising_any (w : World) (f : Int) (hf : -9223372036854775808 ≤ f ∧ f ≤ 9223372036854775807) (a : Option Addr) (len cap : Nat) (l : List Int) (h : HasN w a len cap l) (av : Option Addr) (lenv capv : Nat) (lv : List Int) (hv : HasU w av lenv capv lv) :
    Calls Tryd.prog 7 #[.int .i64 f, .slice a len cap, .slice av lenv capv] w (Rising w (min len 300)) := by
  obtain ⟨t0, ht0, A0⟩ := among_ex f 1000000 1000000 rfl hf (by omega) (by omega)
  have hlen := h.hlen
  have hcap := h.capb
  have hle := h.le
  unfold maxLen at hcap
  have hcapv := hv.capb
  have hlev := hv.le
  unfold maxLen at hcapv
  replace h := hide h
  replace hv := hide hv
  replace A0 := hide A0
  go_enter Tryd.func7, Tryd.ntmps7
  go_wp2_with fail
  refine (A0.out w).mono ?_
  rintro e w1 ⟨rfl, rfl⟩
  clear A0
  go_wp2_with fail
  go_loopw [7, 8, 9, 10] (fun tv lv' iv xv wr => ∃ (k t : Nat) (R : List Sm) (ao : Option Addr) (co : Nat), k ≤ len ∧ k ≤ 300 ∧ tv = .int .i64 (t : Int) ∧ lv' = .slice ao k co ∧ iv = .int .i64 (k : Int) ∧ Hid (RisI w1 k t R ao co wr)) (fun _ _ iv _ _ => len - (intOf iv).toNat)
  case atStart => exact ⟨0, t0, [], _, _, Nat.zero_le _, Nat.zero_le _, rfl, rfl, rfl, (⟨rfl, trivial, (fun s hs => by cases hs), by omega, (fun s hs => by cases hs), ownsS_nil w1 _ (Nat.le_refl _), (Below.refl _ w1).alloc (Nat.le_refl _) _⟩ : RisI w1 0 t0 [] _ _ _)⟩
  case round =>
    obtain ⟨k, t, R, ao, co, hk, hk3, rfl, rfl, rfl, hI⟩ := hrel
    by_cases hkl : k < len ∧ k < 300
    · obtain ⟨hk1, hk2⟩ := hkl
      have j1 : (k : Int) < (len : Int) := by omega
      have j2 : (k : Int) < 300 := by omega
      have j0 : (0 : Int) ≤ (k : Int) := by omega
      obtain ⟨b, off, rfl, hb, hcs⟩ := h.out.cells (by omega)
      obtain ⟨d, hd, A1⟩ := among_ex (l.getD k 0) 100000 100000 rfl (h.out.range k) (by omega) (by omega)
      have htb := hI.out.tb
      have j3 : (t : Int) ≤ 40000000 := by omega
      have j4 : (0 : Int) ≤ (t : Int) := by omega
      have j5 : (d : Int) < 100000 := by omega
      have j6 : (0 : Int) ≤ (d : Int) := by omega
      have j7 : (1 : Int) + (d : Int) = ((1 + d : Nat) : Int) := by omega
      have j8 : (t : Int) + ((1 + d : Nat) : Int) = ((t + (1 + d) : Nat) : Int) := by omega
      obtain ⟨e1, he1⟩ : ∃ e, 1 + d = e := ⟨_, rfl⟩
      obtain ⟨t1, ht1⟩ : ∃ t1, t + e1 = t1 := ⟨_, rfl⟩
      rw [he1] at j7 j8
      rw [ht1] at j8
      have hcT : ∀ W, Below w1.heap.size w1 W → W.cell? ⟨b, off + k, none⟩ = some (.int .i64 (l.getD k 0)) := fun W hW => (hW.cell (p := ⟨b, off + k, none⟩) hb).trans (hcs k hk1)
      replace hcT := hide hcT
      replace A1 := hide A1
      generalize l.getD k 0 = sk at A1 hcT
      clear hcs htb
      -- the value
      have main : ∀ (x : Nat), x < 18446744073709551616 → True := fun _ _ => trivial
      clear main
      have fin : ∀ (x : Nat) (w2 : World) (v3 : Value), x < 18446744073709551616 → w2.ownsRow w1.heap.size 50 2 v3 (k + 1) (flat (R.map up ++ [((t : Int), x)])) → (wr.alloc (.cells #[.int .i64 (t : Int), .int .u64 (x : Int)] 50)).grownBy w2 (Value.slice ao k co).ownBlock →
          ∃ a3 c3, v3 = .slice a3 (k + 1) c3 ∧ RisI w1 (k + 1) t1 (R ++ [(t, x)]) a3 c3 w2 := fun x w2 v3 hx O G => by
        obtain ⟨a3, c3, e3⟩ := slice_of_owns O
        subst e3
        have B := (hI.out.bel.alloc hI.out.bel.size (.cells #[.int .i64 (t : Int), .int .u64 (x : Int)] 50)).grown G (by have := hI.out.bel.size; simp; omega) (fun q e => (hI.out.own.lt q e).1)
        refine ⟨a3, c3, rfl, ?_⟩
        have := hI.out.more hx hd O B
        rw [he1, ht1] at this
        exact this
      replace fin := hide fin
      replace he1 := hide he1
      replace ht1 := hide ht1
      have hown := hide (fun (o : Obj) => hI.out.own.alloc o)
      have hbs := hide (fun (o : Obj) => (show w1.heap.size ≤ (wr.alloc o).heap.size by have := hI.out.bel.size; simp; omega))
      by_cases hkv : k < lenv
      · have j9 : (k : Int) < (lenv : Int) := by omega
        obtain ⟨bv, ov, rfl, hbv, hcv⟩ := hv.out.cells (by omega)
        have c1 := (hI.out.bel.cell (p := ⟨bv, ov + k, none⟩) hbv).trans (hcv k hkv)
        have hxr : 0 ≤ lv.getD k 0 ∧ lv.getD k 0 < 18446744073709551616 := by
          have : k < lv.length := by have := hv.out.hlen; omega
          simp only [List.getD, List.getElem?_eq_getElem this, Option.getD_some]
          exact hv.out.range _ (List.getElem_mem this)
        obtain ⟨x, hx⟩ : ∃ x : Nat, lv.getD k 0 = (x : Int) := ⟨(lv.getD k 0).toNat, by omega⟩
        rw [hx] at c1 hxr
        have hx64 : x < 18446744073709551616 := by omega
        have OO := hide (hown.out (.cells #[.int .i64 (t : Int), .int .u64 (x : Int)] 50))
        have HH := hide (hasS_one wr (t : Int) x hx64)
        have ff := hide (fun w2 v3 => fin.out x w2 v3 hx64)
        have bb := hide (hbs.out (.cells #[.int .i64 (t : Int), .int .u64 (x : Int)] 50))
        clear hcv hx hxr fin hown hbs
        replace hI := hide hI
        go_wp2_with (at_builtin; refine wpList_appS rfl (.tmp 34) (.tmp 38) rfl w1.heap.size _ k (R.map up) rfl OO.out _ 1 1 [((t : Int), x)] rfl HH.out (by omega) bb.out ?_; intro v3 w2 O2 G2; obtain ⟨a3, c3, e3, I3⟩ := ff.out w2 v3 O2 G2; subst e3; replace I3 := hide I3; have cT := hcT.out w2 I3.out.bel; clear O2 G2 OO HH ff bb c1)
        refine (A1.out _).mono ?_
        rintro e w3 ⟨rfl, rfl⟩
        go_wp2_with fail
        go_roundw
        case rel => exact ⟨k + 1, t1, R ++ [(t, x)], a3, c3, by omega, by omega, rfl, rfl, by go_num, I3⟩
        case measure => simp [intOf]; omega
      · have j9 : (lenv : Int) ≤ (k : Int) := by omega
        have hx64 : k < 18446744073709551616 := by omega
        have OO := hide (hown.out (.cells #[.int .i64 (t : Int), .int .u64 (k : Int)] 50))
        have HH := hide (hasS_one wr (t : Int) k hx64)
        have ff := hide (fun w2 v3 => fin.out k w2 v3 hx64)
        have bb := hide (hbs.out (.cells #[.int .i64 (t : Int), .int .u64 (k : Int)] 50))
        clear fin hown hbs
        replace hI := hide hI
        go_wp2_with (at_builtin; refine wpList_appS rfl (.tmp 34) (.tmp 38) rfl w1.heap.size _ k (R.map up) rfl OO.out _ 1 1 [((t : Int), k)] rfl HH.out (by omega) bb.out ?_; intro v3 w2 O2 G2; obtain ⟨a3, c3, e3, I3⟩ := ff.out w2 v3 O2 G2; subst e3; replace I3 := hide I3; have cT := hcT.out w2 I3.out.bel; clear O2 G2 OO HH ff bb)
        refine (A1.out _).mono ?_
        rintro e w3 ⟨rfl, rfl⟩
        go_wp2_with fail
        go_roundw
        case rel => exact ⟨k + 1, t1, R ++ [(t, k)], a3, c3, by omega, by omega, rfl, rfl, by go_num, I3⟩
        case measure => simp [intOf]; omega
    · obtain ⟨a2, c2, e2, H2⟩ := hasS_of_owns hI.out.own hI.out.vb
      have hk4 : min len 300 = k := by omega
      have fin : Hid (Rising w1 (min len 300) (.returned (.slice ao k co)) wr) := by
        cases e2
        show Rising w1 (min len 300) _ _
        rw [hk4]
        exact ⟨R, ao, co, rfl, hI.out.len, hI.out.asc, fun s hs => by have := hI.out.lt s hs; have := hI.out.tb; omega, H2, hI.out.bel⟩
      replace hk4 := hide hk4
      clear e2 H2
      by_cases h8 : k < len
      · obtain rfl : k = 300 := by omega
        have i1 : (300 : Int) < len := by omega
        go_wp2_with fail
        go_ret
        exact fin.out
      · obtain rfl : k = len := by omega
        go_wp2_with fail
        go_ret
        exact fin.out
end Go.Proofs.YtmjjedbdedemcaaDoor
