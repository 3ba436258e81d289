/-
  The reference's disk in memory; its Make, Name, step, sectors.
-/
import Derived.Test.YtgbijkdfhkkieaaSA
namespace Go.Proofs.Ytgbijkdfhkkieaa
open Go.RowKit Go.Maps Go.Lib
set_option linter.unusedVariables false
set_option linter.unusedSimpArgs false

abbrev Ent := ByteArray × Nat
def noEnt : Ent := (ByteArray.empty, 0)
/-- In the world w the slice (a, len, cap) has the entries L. -/
structure HasE (w : World) (a : Option Addr) (len cap : Nat) (L : List Ent) : Prop where
  hlen : L.length = len
  le : len ≤ cap
  capb : cap ≤ maxLen
  nil : a = none → cap = 0
  cells : 0 < len → ∃ b off, a = some ⟨b, off, none⟩ ∧ b < w.heap.size ∧ ∀ i, i < len → w.cell? ⟨b, off + i * 2, none⟩ = some (.string (L.getD i noEnt).1) ∧ w.cell? ⟨b, off + i * 2 + 1, none⟩ = some (.int .i64 ((L.getD i noEnt).2 : Int))
theorem hasE_nil (w : World) : HasE w none 0 0 [] := ⟨rfl, Nat.le_refl _, Nat.zero_le _, fun _ => rfl, fun h => by omega⟩
theorem HasE.but {w w' : World} {a : Option Addr} {n c : Nat} {L : List Ent} (h : HasE w a n c L) {S : Nat → Prop} (hb : But S w w') (hS : 0 < n → ∀ k, (Value.slice a n c).ownBlock = some k → ¬ S k) : HasE w' a n c L := by
  refine ⟨h.hlen, h.le, h.capb, h.nil, fun hp => ?_⟩
  obtain ⟨b, off, e1, e2, e3⟩ := h.cells hp
  refine ⟨b, off, e1, Nat.lt_of_lt_of_le e2 hb.size, fun i hi => ?_⟩
  have hk : w'.heap[b]? = w.heap[b]? := hb.block b e2 (hS hp b (by rw [e1]; rfl))
  obtain ⟨f1, f2⟩ := e3 i hi
  rw [← f1, ← f2]
  unfold World.cell?
  simp only [hk]
  exact ⟨trivial, trivial⟩
/-- Bytes that are never turned: they lie in I. -/
def Sl (w : World) (I : Nat → Prop) (v : Value) : Prop := ∃ a n c l, v = .slice a n c ∧ Has w a n c l ∧ n ≤ 4194304 ∧ (0 < n → ∀ k, v.ownBlock = some k → I k)
/-- Entries that are never turned. -/
def En (w : World) (I : Nat → Prop) (v : Value) (L : List Ent) : Prop := ∃ a n c, v = .slice a n c ∧ HasE w a n c L ∧ (0 < n → ∀ k, v.ownBlock = some k → I k)
theorem Sl.but {w w' : World} {I : Nat → Prop} {v : Value} (h : Sl w I v) {S : Nat → Prop} (hb : But S w w') (hS : ∀ k, I k → ¬ S k) : Sl w' I v := by
  obtain ⟨a, n, c, l, rfl, H, hn, hI⟩ := h
  exact ⟨a, n, c, l, rfl, H.but2 hb (fun hp k hk => hS k (hI hp k hk)), hn, hI⟩
theorem En.but {w w' : World} {I : Nat → Prop} {v : Value} {L : List Ent} (h : En w I v L) {S : Nat → Prop} (hb : But S w w') (hS : ∀ k, I k → ¬ S k) : En w' I v L := by
  obtain ⟨a, n, c, rfl, H, hI⟩ := h
  exact ⟨a, n, c, rfl, H.but hb (fun hp k hk => hS k (hI hp k hk)), hI⟩
theorem Sl.more {w : World} {I J : Nat → Prop} {v : Value} (h : Sl w I v) (hJ : ∀ k, I k → J k) : Sl w J v := by
  obtain ⟨a, n, c, l, rfl, H, hn, hI⟩ := h
  exact ⟨a, n, c, l, rfl, H, hn, fun hp k hk => hJ k (hI hp k hk)⟩
theorem En.more {w : World} {I J : Nat → Prop} {v : Value} {L : List Ent} (h : En w I v L) (hJ : ∀ k, I k → J k) : En w J v L := by
  obtain ⟨a, n, c, rfl, H, hI⟩ := h
  exact ⟨a, n, c, rfl, H, fun hp k hk => hJ k (hI hp k hk)⟩
theorem sl_nil (w : World) (I : Nat → Prop) : Sl w I (.slice none 0 0) := ⟨none, 0, 0, [], rfl, ⟨rfl, Nat.le_refl _, Nat.zero_le _, fun _ => rfl, fun h => by omega, fun _ h => by cases h⟩, by omega, fun h => by omega⟩
theorem en_nil (w : World) (I : Nat → Prop) : En w I (.slice none 0 0) [] := ⟨none, 0, 0, rfl, hasE_nil w, fun h => by omega⟩

/-- The cells of files. -/
def flat2 : List (Value × Value) → List Value
  | [] => []
  | p :: ps => p.1 :: p.2 :: flat2 ps
theorem flat2_len (L : List (Value × Value)) : (flat2 L).length = L.length * 2 := by
  induction L with
  | nil => rfl
  | cons p L ih => simp only [flat2, List.length_cons, ih]; omega
theorem flat2_app (L M : List (Value × Value)) : flat2 (L ++ M) = flat2 L ++ flat2 M := by
  induction L with
  | nil => rfl
  | cons p L ih => simp [flat2, ih]
theorem owns2 {w w' : World} {base : Nat} {t : TypeId} {sz : Nat} {v : Value} {n : Nat} {xs : List Value} (h : w.ownsRow base t sz v n xs) (hk : ∀ k, v.ownBlock = some k → w'.heap[k]? = w.heap[k]?) : w'.ownsRow base t sz v n xs := by
  refine ⟨h.1, ?_⟩
  rcases h.2 with ⟨e1, e2⟩ | ⟨g, cap, cur, e1, hg, hb, r⟩
  · exact .inl ⟨e1, e2⟩
  · exact .inr ⟨g, cap, cur, e1, hg, (hk g (by rw [e1]; rfl)).trans hb, r⟩
/-- The reference's disk. -/
structure RM where
  mx : Int
  dn : Int
  lf : Int
  gone : Bool
  F : List (Value × Value)
  D : List Ent
  S : List Ent
abbrev rcs (r : RM) (vF vD vS : Value) : Array Value := #[.int .i64 r.mx, .int .i64 r.dn, vF, vD, vS, .int .i64 r.lf, .bool r.gone]
/-- .. in memory: its own block y, the row of its files vF, what is never turned in I. -/
structure Rk (w : World) (y : Nat) (r : RM) (I : Nat → Prop) (vF vD vS : Value) : Prop where
  yb : Bx w y 88 (rcs r vF vD vS)
  ow : w.ownsRow 0 102 2 vF r.F.length (flat2 r.F)
  fl : ∀ p ∈ r.F, Sl w I p.1 ∧ Sl w I p.2
  dd : En w I vD r.D
  ss : En w I vS r.S
  xd : ∀ e ∈ r.D, e.2 < r.F.length
  xs : ∀ e ∈ r.S, e.2 < r.F.length
  iy : ¬ I y
  ik : ∀ k, vF.ownBlock = some k → ¬ I k ∧ k ≠ y
  lt : ∀ k, I k → k < w.heap.size
/-- All its blocks. -/
def Ry (y : Nat) (I : Nat → Prop) (vF : Value) : Nat → Prop := fun k => k = y ∨ vF.ownBlock = some k ∨ I k
/-- .. somewhere; nothing of it lies outside R. -/
def Ref (w : World) (y : Nat) (r : RM) (R : Nat → Prop) : Prop := ∃ I vF vD vS, Rk w y r I vF vD vS ∧ R = Ry y I vF
theorem Rk.rlt {w : World} {y : Nat} {r : RM} {I : Nat → Prop} {vF vD vS : Value} (h : Rk w y r I vF vD vS) : ∀ k, Ry y I vF k → k < w.heap.size := by
  rintro k (rfl | e | e)
  · exact h.yb.lt
  · exact (h.ow.lt k e).2
  · exact h.lt k e
theorem Rk.kept {w w' : World} {y : Nat} {r : RM} {I : Nat → Prop} {vF vD vS : Value} (h : Rk w y r I vF vD vS) {S : Nat → Prop} (hb : But S w w') (hS : ∀ k, Ry y I vF k → ¬ S k) : Rk w' y r I vF vD vS where
  yb := h.yb.but hb (hS y (.inl rfl))
  ow := owns2 h.ow (fun k hk => hb.block k (h.ow.lt k hk).2 (hS k (.inr (.inl hk))))
  fl := fun p hp => ⟨(h.fl p hp).1.but hb (fun k hk => hS k (.inr (.inr hk))), (h.fl p hp).2.but hb (fun k hk => hS k (.inr (.inr hk)))⟩
  dd := h.dd.but hb (fun k hk => hS k (.inr (.inr hk)))
  ss := h.ss.but hb (fun k hk => hS k (.inr (.inr hk)))
  xd := h.xd
  xs := h.xs
  iy := h.iy
  ik := h.ik
  lt := fun k hk => Nat.lt_of_lt_of_le (h.lt k hk) hb.size
theorem Ref.kept {w w' : World} {y : Nat} {r : RM} {R : Nat → Prop} (h : Ref w y r R) {S : Nat → Prop} (hb : But S w w') (hS : ∀ k, R k → ¬ S k) : Ref w' y r R := by
  obtain ⟨I, vF, vD, vS, h, rfl⟩ := h
  exact ⟨I, vF, vD, vS, h.kept hb hS, rfl⟩
theorem Rk.below {w w' : World} {y : Nat} {r : RM} {I : Nat → Prop} {vF vD vS : Value} (h : Rk w y r I vF vD vS) (hb : Below w.heap.size w w') : Rk w' y r I vF vD vS :=
  h.kept (But.of_below hb (fun _ => False)) (fun _ _ f => f)
/-- Its own block alone is turned, and new numbers stand in it; other directories, of what is never turned. -/
theorem Rk.turn {w w' : World} {y : Nat} {r r' : RM} {I J : Nat → Prop} {vF vD vS vD' vS' : Value} (h : Rk w y r I vF vD vS) (hb : But (fun x => x = y) w w') (hx : Bx w' y 88 (rcs r' vF vD' vS')) (eF : r'.F = r.F)
    (hJ : ∀ k, I k → J k) (hJ2 : ∀ k, J k → I k ∨ (w.heap.size ≤ k ∧ k < w'.heap.size)) (hd : En w' J vD' r'.D) (hs : En w' J vS' r'.S) (xd : ∀ e ∈ r'.D, e.2 < r.F.length) (xs : ∀ e ∈ r'.S, e.2 < r.F.length) : Rk w' y r' J vF vD' vS' where
  yb := hx
  ow := by rw [eF]; exact owns2 h.ow (fun k hk => hb.block k (h.ow.lt k hk).2 (h.ik k hk).2)
  fl := fun p hp => by
    rw [eF] at hp
    exact ⟨((h.fl p hp).1.but hb (fun k hk e => h.iy (e ▸ hk))).more hJ, ((h.fl p hp).2.but hb (fun k hk e => h.iy (e ▸ hk))).more hJ⟩
  dd := hd
  ss := hs
  xd := by rw [eF]; exact xd
  xs := by rw [eF]; exact xs
  iy := fun hy => by
    rcases hJ2 y hy with e | e
    · exact h.iy e
    · have := h.yb.lt; omega
  ik := fun k hk => ⟨fun e => by
    rcases hJ2 k e with e | e
    · exact (h.ik k hk).1 e
    · have := (h.ow.lt k hk).2; omega, (h.ik k hk).2⟩
  lt := fun k hk => by
    rcases hJ2 k hk with e | e
    · exact Nat.lt_of_lt_of_le (h.lt k e) hb.size
    · exact e.2
/-- .. with the same directories. -/
theorem Rk.num {w w' : World} {y : Nat} {r r' : RM} {I : Nat → Prop} {vF vD vS : Value} (h : Rk w y r I vF vD vS) (hb : But (fun x => x = y) w w') (hx : Bx w' y 88 (rcs r' vF vD vS)) (eF : r'.F = r.F) (eD : r'.D = r.D) (eS : r'.S = r.S) : Rk w' y r' I vF vD vS :=
  h.turn hb hx eF (fun _ e => e) (fun _ e => .inl e) (by rw [eD]; exact h.dd.but hb (fun k hk e => h.iy (e ▸ hk))) (by rw [eS]; exact h.ss.but hb (fun k hk e => h.iy (e ▸ hk))) (by rw [eD]; exact h.xd) (by rw [eS]; exact h.xs)
theorem Rk.cs {w : World} {y : Nat} {r : RM} {I : Nat → Prop} {vF vD vS : Value} (h : Rk w y r I vF vD vS) : w.cell? ⟨y, 0, none⟩ = some (.int .i64 r.mx) ∧ w.cell? ⟨y, 1, none⟩ = some (.int .i64 r.dn) ∧ w.cell? ⟨y, 2, none⟩ = some vF ∧ w.cell? ⟨y, 3, none⟩ = some vD ∧ w.cell? ⟨y, 4, none⟩ = some vS ∧ w.cell? ⟨y, 5, none⟩ = some (.int .i64 r.lf) ∧ w.cell? ⟨y, 6, none⟩ = some (.bool r.gone) :=
  ⟨h.yb.cell 0, h.yb.cell 1, h.yb.cell 2, h.yb.cell 3, h.yb.cell 4, h.yb.cell 5, h.yb.cell 6⟩
def r0 (n : Int) : RM := ⟨n, 0, -1, false, [], [], []⟩
set_option maxHeartbeats 1000000 in
/-- Make, of a room that may be. -/
theorem rmake_any (w : World) (n : Int) (h1 : 1 ≤ n) (h2 : n ≤ 65536) : Calls Try.prog 17 #[.int .i64 n] w fun e w' => ∃ y, e = .returned (.tuple #[ptr y, .int .i64 0]) ∧ Ref w' y (r0 n) (fun k => k = y) ∧ Below w.heap.size w w' ∧ w.heap.size ≤ y := by
  have i1 : ¬ (n < 1) := by omega
  have i2 : ¬ (65536 < n) := by omega
  go_enter Try.func17, Try.ntmps17
  go_wp2
  go_ret2
  refine ⟨w.heap.size, rfl, ⟨fun _ => False, .slice none 0 0, .slice none 0 0, .slice none 0 0, ⟨Bx.new w 88 _, ⟨rfl, .inl ⟨rfl, rfl⟩⟩, (fun p hp => by cases hp), en_nil _ _, en_nil _ _, (fun e he => by cases he), (fun e he => by cases he), (fun f => f), (fun k hk => by cases hk), (fun k f => f.elim)⟩, ?_⟩, (Below.refl _ w).alloc (Nat.le_refl _) _, Nat.le_refl _⟩
  funext k
  simp [Ry, Value.ownBlock]
/-- Behind a step that is done, or with which the power goes. -/
def rst (r : RM) : RM := if r.lf = 0 then { r with gone := true } else { r with lf := if 0 < r.lf then r.lf - 1 else r.lf, dn := r.dn + 1 }
set_option maxHeartbeats 1000000 in
set_option maxRecDepth 100000 in
theorem rsectors_any (w : World) (n : Nat) (h : n ≤ 1099511627776) : Calls Try.prog 86 #[.int .i64 (n : Int)] w fun e w' => e = .returned (.int .i64 (sec n : Int)) ∧ w' = w := by
  have e : ((n : Int) + 255) / 256 = (sec n : Int) := by unfold sec; omega
  have e2 : Int.tdiv ((n : Int) + 255) 256 = (sec n : Int) := by rw [Int.tdiv_eq_ediv_of_nonneg (by omega)]; exact e
  go_enter Try.func86, Try.ntmps86
  go_wp2
  go_ret
  exact ⟨by first | rfl | (go_num) | simp [e], rfl⟩
set_option maxHeartbeats 2000000 in
set_option maxRecDepth 100000 in
theorem rstep_any {w : World} {y : Nat} {r : RM} {I : Nat → Prop} {vF vD vS : Value} (h : Rk w y r I vF vD vS) (hd : 0 ≤ r.dn ∧ r.dn ≤ 1099511627776) (hl : r.lf ≤ 9223372036854775807) : Calls Try.prog 72 #[ptr y] w fun e w' => e = .returned (.bool (r.lf != 0)) ∧ Rk w' y (rst r) I vF vD vS ∧ But (fun x => x = y) w w' := by
  obtain ⟨c0, c1, c2, c3, c4, c5, c6⟩ := h.cs
  have f6 := h.yb.fz 6
  have f5 := h.yb.fz 5
  have f1 := h.yb.fz 1
  by_cases h0 : r.lf = 0
  · have fin : Hid (Rk (w.setCell ⟨y, 6, none⟩ (.bool true)) y (rst r) I vF vD vS ∧ But (fun x => x = y) w (w.setCell ⟨y, 6, none⟩ (.bool true))) := by
      refine ⟨h.num (but_setCell w y 6 _) ?_ (by simp [rst, h0]) (by simp [rst, h0]) (by simp [rst, h0]), but_setCell w y 6 _⟩
      have := h.yb.set1 6 (.bool true)
      rw [show rst r = { r with gone := true } by simp [rst, h0]]
      exact this
    rw [h0] at c5
    clear h
    replace h0 := hide h0
    go_enter Try.func72, Try.ntmps72
    go_wp2
    go_ret
    exact ⟨by rw [h0.out]; rfl, fin.out⟩
  · have hdw : IntKind.i64.wrap (r.dn + 1) = r.dn + 1 := wrapi _ (by omega)
    by_cases h1 : 0 < r.lf
    · have fin : Hid (Rk ((w.setCell ⟨y, 5, none⟩ (.int .i64 (r.lf - 1))).setCell ⟨y, 1, none⟩ (.int .i64 (r.dn + 1))) y (rst r) I vF vD vS ∧ But (fun x => x = y) w ((w.setCell ⟨y, 5, none⟩ (.int .i64 (r.lf - 1))).setCell ⟨y, 1, none⟩ (.int .i64 (r.dn + 1)))) := by
        have b := (but_setCell w y 5 (.int .i64 (r.lf - 1))).setCell (p := ⟨y, 1, none⟩) (fun _ => rfl) (.int .i64 (r.dn + 1))
        refine ⟨h.num b ?_ (by simp [rst, h0]) (by simp [rst, h0]) (by simp [rst, h0]), b⟩
        have := (h.yb.set1 5 (.int .i64 (r.lf - 1))).set1 1 (.int .i64 (r.dn + 1))
        rw [show rst r = { r with lf := r.lf - 1, dn := r.dn + 1 } by simp [rst, h0, h1]]
        exact this
      have hlw : IntKind.i64.wrap (r.lf - 1) = r.lf - 1 := wrapi _ (by omega)
      have hn : (r.lf != 0) = true := by simpa using h0
      have hn2 : (r.lf == 0) = false := by simpa using h0
      clear h
      replace h0 := hide h0
      go_enter Try.func72, Try.ntmps72
      go_wp2
      go_ret
      exact ⟨by first | rfl | (rw [hn]; rfl), fin.out⟩
    · have fin : Hid (Rk (w.setCell ⟨y, 1, none⟩ (.int .i64 (r.dn + 1))) y (rst r) I vF vD vS ∧ But (fun x => x = y) w (w.setCell ⟨y, 1, none⟩ (.int .i64 (r.dn + 1)))) := by
        refine ⟨h.num (but_setCell w y 1 _) ?_ (by simp [rst, h0]) (by simp [rst, h0]) (by simp [rst, h0]), but_setCell w y 1 _⟩
        have := h.yb.set1 1 (.int .i64 (r.dn + 1))
        rw [show rst r = { r with dn := r.dn + 1 } by simp [rst, h0, h1]]
        exact this
      have hn : (r.lf != 0) = true := by simpa using h0
      have hn2 : (r.lf == 0) = false := by simpa using h0
      clear h
      replace h0 := hide h0
      go_enter Try.func72, Try.ntmps72
      go_wp2
      go_ret
      exact ⟨by first | rfl | (rw [hn]; rfl), fin.out⟩
set_option maxHeartbeats 2000000 in
set_option maxRecDepth 100000 in
theorem rname_any (s : ByteArray) (w : World) : Calls Try.prog 70 #[.string s] w fun e w' => e = .returned (.bool (nameOk s)) ∧ w' = w := by
  by_cases h1 : 0 < ByteArray.size s
  · have i1 : s.toList.isEmpty = false := by
      rw [ByteArray.toList_eq]
      cases s with
      | mk d =>
        have : 0 < d.size := h1
        cases hd : d.toList with
        | nil => have : d.size = 0 := by simpa using congrArg List.length hd
                 omega
        | cons => rfl
    by_cases h2 : ByteArray.size s ≤ 64
    · have i2 : ¬ ((64 : Int) < (ByteArray.size s : Int)) := by omega
      go_enter Try.func70, Try.ntmps70
      go_wp2
      go_loopw [3] (fun i wr => ∃ k : Nat, k ≤ ByteArray.size s ∧ i = .int .i64 k ∧ wr = w ∧ Hid (∀ j, j < k → (33 ≤ byt s j ∧ byt s j ≤ 126))) (fun i _ => ByteArray.size s - (intOf i).toNat)
      case atStart => exact ⟨0, Nat.zero_le _, rfl, rfl, (fun j hj => by omega : ∀ j, j < 0 → (33 ≤ byt s j ∧ byt s j ≤ 126))⟩
      case round =>
        obtain ⟨k, hk, rfl, rfl, ht⟩ := hrel
        by_cases hkl : k < ByteArray.size s
        · have j1 : (k : Int) < (ByteArray.size s : Int) := by omega
          have bk := byt_eq hkl
          by_cases ha : 33 ≤ byt s k
          · by_cases hb : byt s k ≤ 126
            · have ht2 : Hid (∀ j, j < k + 1 → (33 ≤ byt s j ∧ byt s j ≤ 126)) := fun j hj => by
                rcases Nat.lt_succ_iff_lt_or_eq.1 hj with h' | h'
                · exact ht.out j h'
                · rw [h']; exact ⟨ha, hb⟩
              have ha' : ¬ (((s[k]'hkl).toNat : Int) < 33) := by rw [bk]; omega
              have hb' : ¬ (126 < ((s[k]'hkl).toNat : Int)) := by rw [bk]; omega
              clear ht ha hb bk
              go_wp2
              go_roundw
              case rel => exact ⟨k + 1, by omega, by go_num, (by first | trivial | rfl), ht2⟩
              case measure => simp [intOf]; omega
            · have fin : Hid (nameOk s = false) := by
                show nameOk s = false
                unfold nameOk
                rw [Bool.and_eq_false_iff]
                exact .inr (by
                  rw [List.all_eq_false]
                  exact ⟨k, List.mem_range.2 hkl, by simp [ha, hb]⟩)
              have ha' : ¬ (((s[k]'hkl).toNat : Int) < 33) := by rw [bk]; omega
              have hb' : 126 < ((s[k]'hkl).toNat : Int) := by rw [bk]; omega
              clear ht ha hb bk
              go_wp2
              go_ret
              exact ⟨by rw [fin.out]; rfl, rfl⟩
          · have fin : Hid (nameOk s = false) := by
              show nameOk s = false
              unfold nameOk
              rw [Bool.and_eq_false_iff]
              exact .inr (by
                rw [List.all_eq_false]
                exact ⟨k, List.mem_range.2 hkl, by simp [ha]⟩)
            have ha' : ((s[k]'hkl).toNat : Int) < 33 := by rw [bk]; omega
            clear ht ha bk
            go_wp2
            go_ret
            exact ⟨by rw [fin.out]; rfl, rfl⟩
        · obtain rfl : k = ByteArray.size s := by omega
          have fin : Hid (nameOk s = true) := by
            show nameOk s = true
            unfold nameOk
            simp only [h1, h2, Bool.and_eq_true, decide_true, and_self, true_and, List.all_eq_true, List.mem_range, decide_eq_true_eq]
            exact ht.out
          go_wp2
          go_ret
          exact ⟨by rw [fin.out]; rfl, rfl⟩
    · have i2 : (64 : Int) < (ByteArray.size s : Int) := by omega
      rw [show nameOk s = false by simp [nameOk, h2]]
      go_enter Try.func70, Try.ntmps70
      go_wp2
      go_ret
      exact ⟨rfl, rfl⟩
  · have i1 : s.toList.isEmpty = true := by rw [size_of_not s h1, ByteArray.toList_eq]; rfl
    rw [show nameOk s = false by simp [nameOk, h1]]
    go_enter Try.func70, Try.ntmps70
    go_wp2
    go_ret
    exact ⟨rfl, rfl⟩
end Go.Proofs.Ytgbijkdfhkkieaa
