/-
  The reference's Put and Take.
-/
import Derived.Test.YthkfbdcocnhebaaV
namespace Go.Proofs.Ythkfbdcocnhebaa
open Go.RowKit
set_option linter.unusedVariables false
set_option linter.unusedSimpArgs false

/-- A list with x; a list without x. -/
def addL (l : List Int) (x : Int) : List Int := l.filter (fun y => decide (y < x)) ++ [x] ++ l.filter (fun y => decide (x < y))
def dropL (l : List Int) (x : Int) : List Int := l.filter (fun y => decide (y ≠ x))
theorem up_addL {l : List Int} (h : Up l) (x : Int) : Up (addL l x) := by
  unfold addL
  refine List.pairwise_append.2 ⟨List.pairwise_append.2 ⟨up_filter h _, by simp, fun a ha b hb => ?_⟩, up_filter h _, fun a ha b hb => ?_⟩
  · rw [List.mem_singleton.1 hb]; simpa using (List.mem_filter.1 ha).2
  · have h1 : x < b := by simpa using (List.mem_filter.1 hb).2
    rcases List.mem_append.1 ha with ha | ha
    · have h2 : a < x := by simpa using (List.mem_filter.1 ha).2
      omega
    · rw [List.mem_singleton.1 ha]; exact h1
theorem mem_addL (l : List Int) (x y : Int) : y ∈ addL l x ↔ y ∈ l ∨ y = x := by
  unfold addL
  simp only [List.mem_append, List.mem_filter, List.mem_singleton, decide_eq_true_eq]
  constructor
  · rintro ((h | h) | h)
    · exact .inl h.1
    · exact .inr h
    · exact .inl h.1
  · rintro (h | h)
    · rcases Int.lt_trichotomy y x with h1 | h1 | h1
      · exact .inl (.inl ⟨h, h1⟩)
      · exact .inl (.inr h1)
      · exact .inr ⟨h, h1⟩
    · exact .inl (.inr h)
theorem addL_ne (l : List Int) (x : Int) : addL l x ≠ [] := fun h => by
  have := (mem_addL l x x).2 (.inr rfl)
  rw [h] at this; simp at this
theorem up_dropL {l : List Int} (h : Up l) (x : Int) : Up (dropL l x) := up_filter h _
theorem mem_dropL (l : List Int) (x y : Int) : y ∈ dropL l x ↔ y ∈ l ∧ y ≠ x := by
  unfold dropL
  simp [List.mem_filter]
theorem addL_len {l : List Int} (x : Int) : (addL l x).length ≤ l.length + 1 := by
  unfold addL
  have h : (l.filter (fun y => decide (y < x))).length + (l.filter (fun y => decide (x < y))).length ≤ l.length := by
    induction l with
    | nil => simp
    | cons a r ih =>
      by_cases h1 : a < x
      · have h2 : ¬ x < a := by omega
        simp [h1, h2]; omega
      · by_cases h2 : x < a
        · simp [h1, h2]; omega
        · simp [h1, h2]; omega
  simp only [List.length_append, List.length_singleton]
  omega
theorem dropL_len (l : List Int) (x : Int) : (dropL l x).length ≤ l.length := List.length_filter_le _ _
/-- What holds of an index: keys rise, no list is empty, all lists rise. -/
structure Fine (E : List Ent) (N M : Nat) : Prop where
  ups : Ups E
  full : Full E
  up : ∀ e ∈ E, Up e.2
  len : E.length ≤ N
  each : ∀ e ∈ E, e.2.length ≤ M
theorem fine_nil : Fine [] 0 0 := ⟨List.Pairwise.nil, fun e h => by simp at h, fun e h => by simp at h, by simp, fun e h => by simp at h⟩
theorem Fine.lk_up {E : List Ent} {N M : Nat} (h : Fine E N M) (k : Str) : Up (lk E k) := by
  by_cases e : lk E k = []
  · rw [e]; exact up_nil
  · exact h.up _ (lk_mem e)
theorem Fine.lk_len {E : List Ent} {N M : Nat} (h : Fine E N M) (k : Str) : (lk E k).length ≤ M := by
  by_cases e : lk E k = []
  · rw [e]; simp
  · exact h.each _ (lk_mem e)
theorem Fine.set {E : List Ent} {N M : Nat} (h : Fine E N M) (k : Str) {l : List Int} (hl : Up l) (hn : l.length ≤ M + 1) : Fine (st E k l) (N + 1) (M + 1) := by
  refine ⟨ups_st h.ups k l, full_st h.full k l, fun e he => ?_, by have := st_len E k l; have := h.len; omega, fun e he => ?_⟩
  · rcases mem_st he with he | ⟨rfl, _⟩
    · exact h.up e he
    · exact hl
  · rcases mem_st he with he | ⟨rfl, _⟩
    · have := h.each e he; omega
    · exact hn
theorem Rx.kept {No : Nat → Prop} {w w' : World} {g : Nat} {E : List Ent} (h : Rx No w g E) (hb : Below w.heap.size w w') : Rx No w' g E := by
  obtain ⟨h0, a, n, c, h1, h2⟩ := h
  exact ⟨h0, a, n, c, (hb.block g (Array.getElem?_eq_some_iff.1 h1).1).trans h1, h2.kept hb (Nat.le_refl _)⟩
theorem Rx.lt {No : Nat → Prop} {w : World} {g : Nat} {E : List Ent} (h : Rx No w g E) : g < w.heap.size := by
  obtain ⟨_, a, n, c, h1, h2⟩ := h
  exact (Array.getElem?_eq_some_iff.1 h1).1
theorem Rx.off {No : Nat → Prop} {w w' : World} {g : Nat} {E : List Ent} (h : Rx No w g E) (hb : But No w w') : Rx No w' g E := by
  obtain ⟨h0, a, n, c, h1, h2⟩ := h
  exact ⟨h0, a, n, c, (hb.block g (Array.getElem?_eq_some_iff.1 h1).1 h0).trans h1, h2.off hb.size (fun q hq hn => hb.block q hq hn)⟩
theorem HasE.reno {No No' : Nat → Prop} {w : World} {a : Option Addr} {n c : Nat} {E : List Ent} (h : HasE No w a n c E) (hn : ∀ x, x < w.heap.size → No' x → No x) : HasE No' w a n c E :=
  ⟨h.hlen, h.le, h.capb, fun i hi => by
    obtain ⟨b, off, x, m, k, e1, e2, e3, e4, ⟨e5, e6⟩, e7⟩ := h.cells i hi
    exact ⟨b, off, x, m, k, e1, e2, e3, e4, ⟨e5, fun q hm hq hN => e6 q hm hq (hn q (e5.lt hm hq) hN)⟩, fun hN => e7 (hn b e2 hN)⟩⟩
theorem Rx.reno {No No' : Nat → Prop} {w : World} {g : Nat} {E : List Ent} (h : Rx No w g E) (hn : ∀ x, x < w.heap.size → No' x → No x) : Rx No' w g E := by
  obtain ⟨h0, a, n, c, h1, h2⟩ := h
  exact ⟨fun hN => h0 (hn g (Array.getElem?_eq_some_iff.1 h1).1 hN), a, n, c, h1, h2.reno hn⟩
theorem RetE.out2 {w w' : World} {p : Prop} {M : Int → Prop} {N : Nat} {e : Ending} (h : RetE w p M N e w') (hp : p) : ∃ r a n c, e = .returned (.tuple #[.slice a n c, .int .i64 0]) ∧ HasU w' a n c r ∧ Below w.heap.size w w' ∧ Up r ∧ (∀ x, x ∈ r ↔ M x) ∧ r.length ≤ N ∧ ∀ k, (Value.slice a n c).ownBlock = some k → w.heap.size ≤ k := by
  obtain ⟨r, a, n, c, er, h1, h2, h3, h4, ⟨_, rfl, h5, h6, h7⟩ | ⟨h6, _⟩⟩ := h
  · exact ⟨r, a, n, c, h1, h2, h3, h5, h6, h7, h4⟩
  · exact (h6 hp).elim
set_option maxHeartbeats 2000000 in
theorem rput_any (No : Nat → Prop) (w : World) (hNo : ∀ x, No x → x < w.heap.size) (g : Nat) (E : List Ent) (key : Str) (x : Int) (h : Rx No w g E) (hf : Fine E 1000 10000) (hx : 0 ≤ x ∧ x < 18446744073709551616) :
    Calls Try.prog 31 #[.pointer (some ⟨g, 0, none⟩), .string key, .int .u64 x] w fun e w' => e = .returned (.tuple #[]) ∧ Rx No w' g (st E key (addL (lk E key) x)) ∧ But (fun b => b = g) w w' := by
  have C1 := hide (rlist_any No w g E key h hf.len (fun e he => by have := hf.each e he; omega))
  have hll := hf.lk_len key
  replace h := hide h
  replace hf := hide hf
  go_enter Try.func31, Try.ntmps31
  go_wp2_with fail
  refine C1.out.mono ?_
  rintro e w1 ⟨a, n, c, rfl, H1, B1, _⟩
  have hn := H1.hlen
  have C2 := hide (radd_any w1 a n c (lk E key) H1 (by omega) x hx)
  replace H1 := hide H1
  replace B1 := hide B1
  go_wp2_with fail
  refine C2.out.mono ?_
  intro e w2 he
  obtain ⟨r, a2, n2, c2, rfl, H2, B2, hu2, hm2, hl2, hq2⟩ := he.out2 (hf.out.lk_up key)
  have hr : r = addL (lk E key) x := up_ext hu2 (up_addL (hf.out.lk_up key) x) (fun y => by rw [hm2, mem_addL])
  have B12 : Below w.heap.size w w2 := B1.out.trans (B2.mono B1.out.size)
  have hn2 := H2.hlen
  have C3 := hide (rset_any No w2 (fun x hx => Nat.lt_of_lt_of_le (hNo x hx) B12.size) g E key a2 n2 c2 r (h.out.kept B12) hf.out.ups hf.out.len ⟨H2, fun q _ hq hN => by have := hq2 q hq; have := hNo q hN; have := B1.out.size; omega⟩ (by omega))
  rw [hr] at C3
  clear hr hm2 hu2 he hl2 hn2 H2 hq2
  replace B12 := hide B12
  clear B2
  go_wp2_with fail
  refine C3.out.mono ?_
  rintro e w3 ⟨rfl, R3, b3⟩
  replace R3 := hide R3
  replace b3 := hide b3
  go_wp2_with fail
  go_end0
  exact ⟨rfl, R3.out, (But.of_below B12.out _).trans b3.out (fun _ _ e => e)⟩
set_option maxHeartbeats 2000000 in
theorem rtake_any (No : Nat → Prop) (w : World) (hNo : ∀ x, No x → x < w.heap.size) (g : Nat) (E : List Ent) (key : Str) (x : Int) (h : Rx No w g E) (hf : Fine E 1000 10000) (hx : 0 ≤ x ∧ x < 18446744073709551616) :
    Calls Try.prog 33 #[.pointer (some ⟨g, 0, none⟩), .string key, .int .u64 x] w fun e w' => e = .returned (.tuple #[]) ∧ Rx No w' g (st E key (dropL (lk E key) x)) ∧ But (fun b => b = g) w w' := by
  have C1 := hide (rlist_any No w g E key h hf.len (fun e he => by have := hf.each e he; omega))
  have hll := hf.lk_len key
  replace h := hide h
  replace hf := hide hf
  go_enter Try.func33, Try.ntmps33
  go_wp2_with fail
  refine C1.out.mono ?_
  rintro e w1 ⟨a, n, c, rfl, H1, B1, _⟩
  have hn := H1.hlen
  have C2 := hide (rdrop_any w1 a n c (lk E key) H1 (by omega) x hx)
  replace H1 := hide H1
  replace B1 := hide B1
  go_wp2_with fail
  refine C2.out.mono ?_
  intro e w2 he
  obtain ⟨r, a2, n2, c2, rfl, H2, B2, hu2, hm2, hl2, hq2⟩ := he.out2 (hf.out.lk_up key)
  have hr : r = dropL (lk E key) x := up_ext hu2 (up_dropL (hf.out.lk_up key) x) (fun y => by rw [hm2, mem_dropL])
  have B12 : Below w.heap.size w w2 := B1.out.trans (B2.mono B1.out.size)
  have hn2 := H2.hlen
  have C3 := hide (rset_any No w2 (fun x hx => Nat.lt_of_lt_of_le (hNo x hx) B12.size) g E key a2 n2 c2 r (h.out.kept B12) hf.out.ups hf.out.len ⟨H2, fun q _ hq hN => by have := hq2 q hq; have := hNo q hN; have := B1.out.size; omega⟩ (by omega))
  rw [hr] at C3
  clear hr hm2 hu2 he hl2 hn2 H2 hq2
  replace B12 := hide B12
  clear B2
  go_wp2_with fail
  refine C3.out.mono ?_
  rintro e w3 ⟨rfl, R3, b3⟩
  replace R3 := hide R3
  replace b3 := hide b3
  go_wp2_with fail
  go_end0
  exact ⟨rfl, R3.out, (But.of_below B12.out _).trans b3.out (fun _ _ e => e)⟩
end Go.Proofs.Ythkfbdcocnhebaa
