/-
  The walk of StampBytes.
-/
import Derived.Test.YtpopkoedeckfoaaDoorRA
import Derived.Test.YtpopkoedeckfoaaDoorRB
import Derived.Test.YtpopkoedeckfoaaDoorI
import Derived.Deep.QuietTactic
import Derived.BigQuiet
namespace Go.Proofs.YtpopkoedeckfoaaDoor
open Go.ChangeShapes Go.WideShapes Go.ChangeAt Go.RowKit
set_option linter.unusedVariables false
set_option linter.unusedSimpArgs false

/-- A slice of numbers, none of nil. -/
structure HasN (w : World) (a : Option Addr) (len cap : Nat) (l : List Int) : Prop where
  has : HasI w a len cap l
  nil : a = none → cap = 0
theorem came_intsn {H : Type} {enc : TypeId × Value → H} {W : World} {base : Nat} {a : Option Addr} {len cap : Nat} {d : DataW H} {p : List MemPlace} (h : DataW.Trod enc Tryd.prog W base (fun _ => true) true 57 (.slice a len cap) d p) : ∃ l, HasN W a len cap l := by
  obtain ⟨l, hl⟩ := came_ints h
  obtain ⟨fuel, hf⟩ := h
  rcases open_ints Tryd.underlying57 Tryd.underlying3 (by kernel_rfl) hf with ⟨hcs, _⟩ | ⟨x, l', c, zs, hcs, _⟩
  · simp [Value.cells] at hcs
    obtain ⟨rfl, rfl, rfl⟩ := hcs
    exact ⟨l, hl, fun _ => rfl⟩
  · simp [Value.cells] at hcs
    obtain ⟨rfl, rfl, rfl⟩ := hcs
    exact ⟨l, hl, fun h => by cases h⟩
theorem HasI.front {w : World} {a : Option Addr} {len cap : Nat} {l : List Int} (h : HasI w a len cap l) (k : Nat) (hk : k ≤ len) : HasI w a k cap (l.take k) := by
  have hl := h.hlen
  refine ⟨by simp; omega, Nat.le_trans hk h.le, h.capb, fun hp => ?_, fun x hx => h.range x (List.mem_of_mem_take hx)⟩
  obtain ⟨b, off, e1, e2, e3⟩ := h.cells (by omega)
  refine ⟨b, off, e1, e2, fun i hi => ?_⟩
  rw [e3 i (by omega)]
  simp [List.getD, hi]
theorem hasI_nil (w : World) : HasI w none 0 0 [] := ⟨rfl, Nat.le_refl _, Nat.zero_le _, fun h => by omega, fun x hx => by simp at hx⟩

def IsB (l : List Int) (len : Nat) (lw : List Int) (er : Int) : Prop :=
  ((∀ j, j < len → okL l j) ∧ Holds lw (numP (fB l) (xB l) len) (posP (fB l) len) ∧ er = 0) ∨ ((¬ ∀ j, j < len → okL l j) ∧ lw = [] ∧ er = 60)
theorem IsB.same {l : List Int} {len : Nat} {x y : List Int} {e f : Int} (h : IsB l len x e) (k : IsB l len y f) : x = y ∧ e = f := by
  rcases h with ⟨h1, h2, h3⟩ | ⟨h1, h2, h3⟩ <;> rcases k with ⟨k1, k2, k3⟩ | ⟨k1, k2, k3⟩
  · exact ⟨h2.same k2, by rw [h3, k3]⟩
  · exact absurd h1 k1
  · exact absurd k1 h1
  · exact ⟨by rw [h2, k2], by rw [h3, k3]⟩
def BytesU (l : List Int) (len : Nat) (w : World) (e : Ending) (w' : World) : Prop :=
  ∃ lw a n cap er, e = .returned (.tuple #[.slice a n cap, .int .i64 er]) ∧ Has w' a n cap lw ∧ IsB l len lw er ∧ Below w.heap.size w w'
theorem bytesU {l : List Int} {len : Nat} {w w' : World} {e : Ending} (h : BytesT l len w e w') : BytesU l len w e w' := by
  obtain ⟨⟨h1, lw, a, n, cap, h2, h3, h4⟩ | ⟨h1, h2⟩, b⟩ := h
  · exact ⟨lw, a, n, cap, 0, h3, h4, .inl ⟨h1, h2, rfl⟩, b⟩
  · exact ⟨[], none, 0, 0, 60, h2, has_nil _, .inr ⟨h1, rfl, rfl⟩, b⟩

def IsR (V N : Nat) (m : Int) (n : Nat) (ts : List Int) (er : Int) : Prop :=
  (isCnt m = false ∧ n = 0 ∧ ts = [] ∧ er = 2) ∨ (isCnt m = true ∧ ((∃ L D P, rdA V N m.toNat = .inl (L, D, P, ts) ∧ n = m.toNat ∧ er = 0) ∨ (∃ e : Nat, rdA V N m.toNat = .inr e ∧ n = 0 ∧ ts = [] ∧ er = (e : Int))))
theorem IsR.same {V N : Nat} {m : Int} {n n' : Nat} {x y : List Int} {e f : Int} (h : IsR V N m n x e) (k : IsR V N m n' y f) : n = n' ∧ x = y ∧ e = f := by
  rcases h with ⟨h1, h2, h3, h4⟩ | ⟨h1, ⟨L, D, P, h2, h3, h4⟩ | ⟨e1, h2, h3, h4, h5⟩⟩ <;> rcases k with ⟨k1, k2, k3, k4⟩ | ⟨k1, ⟨L', D', P', k2, k3, k4⟩ | ⟨e2, k2, k3, k4, k5⟩⟩
  · exact ⟨by rw [h2, k2], by rw [h3, k3], by rw [h4, k4]⟩
  · rw [h1] at k1; cases k1
  · rw [h1] at k1; cases k1
  · rw [h1] at k1; cases k1
  · have h5 := h2.symm.trans k2
    simp only [Sum.inl.injEq, Prod.mk.injEq] at h5
    exact ⟨by rw [h3, k3], h5.2.2.2, by rw [h4, k4]⟩
  · rw [h2] at k2; cases k2
  · rw [h1] at k1; cases k1
  · rw [h2] at k2; cases k2
  · have h6 := h2.symm.trans k2
    simp only [Sum.inr.injEq] at h6
    exact ⟨by rw [h3, k3], by rw [h4, k4], by rw [h5, k5, h6]⟩
theorem IsR.le {V N : Nat} {m : Int} {n : Nat} {x : List Int} {e : Int} (h : IsR V N m n x e) : n ≤ 4096 := by
  rcases h with ⟨h1, h2, h3, h4⟩ | ⟨h1, ⟨L, D, P, h2, h3, h4⟩ | ⟨e1, h2, h3, h4, h5⟩⟩
  · omega
  · simp [isCnt] at h1; omega
  · omega
def ReadU (V N : Nat) (m : Int) (w : World) (e : Ending) (w' : World) : Prop :=
  ∃ ts a n cap er, e = .returned (.tuple #[.slice a n cap, .int .i64 er]) ∧ HasI w' a n cap ts ∧ IsR V N m n ts er ∧ Below w.heap.size w w'
theorem readU {V N m : Nat} {w w' : World} {e : Ending} (hm : m ≤ 4096) (h : ReadT V N m w e w') : ReadU V N (m : Int) w e w' := by
  have hc : isCnt (m : Int) = true := by simp [isCnt]; omega
  obtain ⟨⟨L, D, P, ts, a, cap, h1, h2, h3⟩ | ⟨er, h1, h2⟩, b⟩ := h
  · exact ⟨ts, a, m, cap, 0, h2, h3, .inr ⟨hc, .inl ⟨L, D, P, h1, by simp, rfl⟩⟩, b⟩
  · exact ⟨[], none, 0, 0, er, h2, hasI_nil _, .inr ⟨hc, .inr ⟨er, h1, rfl, rfl, rfl⟩⟩, b⟩
theorem cnt_nat {m : Int} (h : isCnt m = true) : ∃ k : Nat, m = (k : Int) ∧ k ≤ 4096 := by
  simp [isCnt] at h
  exact ⟨m.toNat, by omega, by omega⟩
theorem readU_any (w : World) (a : Option Addr) (len cap : Nat) (lb : List Int) (m : Int) (H : Has w a len cap lb) (hlen : len ≤ 300) (hT : Tab w) :
    Calls Tryd.prog 29 #[.slice a len cap, .int .i64 m] w (ReadU (num lb) lb.length m w) := by
  cases hc : isCnt m
  · refine (read_bad w a len cap m hc).mono ?_
    rintro e w' ⟨rfl, b⟩
    exact ⟨[], none, 0, 0, 2, rfl, hasI_nil _, .inl ⟨hc, rfl, rfl, rfl⟩, b⟩
  · obtain ⟨k, rfl, hk⟩ := cnt_nat hc
    exact (read_any w a len cap lb k hk H (by omega) hT).mono fun e w' h => readU hk h
theorem rreadU_any (w : World) (a : Option Addr) (len cap : Nat) (lb : List Int) (m : Int) (H : Has w a len cap lb) (hlen : len ≤ 300) :
    Calls Tryd.prog 31 #[.slice a len cap, .int .i64 m] w (ReadU (num lb) lb.length m w) := by
  cases hc : isCnt m
  · refine (rread_bad w a len cap m hc).mono ?_
    rintro e w' ⟨rfl, rfl⟩
    exact ⟨[], none, 0, 0, 2, rfl, hasI_nil _, .inl ⟨hc, rfl, rfl, rfl⟩, Below.refl _ _⟩
  · obtain ⟨k, rfl, hk⟩ := cnt_nat hc
    exact (rread_any w a len cap lb k hk H hlen).mono fun e w' h => readU hk h

set_option maxRecDepth 100000 in
set_option maxHeartbeats 4000000 in
theorem bytes_walk0 (a0 : Option Addr) (len0 cap0 n0 : Nat) (l : List Int) (a1 : Option Addr) (len1 cap1 n1 : Nat) (lb : List Int) (m : Int) (w : World) (ht : Tab w) (HL : HasN w a0 n0 cap0 l) (HB : Has w a1 n1 cap1 lb) (hn0 : n0 ≤ 60) (hn1 : n1 ≤ 200)
    (hle0 : len0 ≤ cap0) (hcb0 : cap0 ≤ maxLen) (hle1 : len1 ≤ cap1) (hcb1 : cap1 ≤ maxLen)
    (ek0 : (if (60 : Int) < (len0 : Int) then 60 else (len0 : Int)) = (n0 : Int)) (ek1 : (if (200 : Int) < (len1 : Int) then 200 else (len1 : Int)) = (n1 : Int)) :
    Calls Tryd.prog 5 #[.slice a0 len0 cap0, .slice a1 len1 cap1, .int .i64 m] w fun e w' => e = .returned (.bool true) ∧ Below w.heap.size w w' := by
  have k0 : (n0 : Int) ≤ (cap0 : Int) := by have := HL.has.le; omega
  have k1 : (n1 : Int) ≤ (cap1 : Int) := by have := HB.le; omega
  unfold maxLen at hcb0 hcb1
  have hpos := hide ht.pos
  replace HL := hide HL
  replace HB := hide HB
  replace ht := hide ht
  go_enter Tryd.func5, Tryd.ntmps5
  go_upto_region 1 with fail
  go_quiet (fail)
  have B1 := hide (below_drewN (Below.refl w.heap.size w) nq)
  generalize w.drewN nq = w1 at *
  have IN := hide (ints_any w1 a0 n0 cap0 l (HL.out.has.kept B1.out (Nat.le_refl _)) HL.out.nil (by omega))
  go_wp2_with fail
  refine IN.out.mono ?_
  rintro e w2 ⟨a2, c2, rfl, H2, b2⟩
  have B2 := hide (B1.out.trans (b2.mono B1.out.size))
  have SB := hide ((sbytes_any w2 a2 n0 c2 l H2 (by omega) (ht.out.kept B2.out hpos.out)).mono fun e w' h => bytesU h)
  clear IN b2 B1 H2
  go_wp2_with fail
  refine SB.out.mono ?_
  rintro e w3 ⟨x, a3, n3, c3, e3, rfl, H3, I3, b3⟩
  have B3 := hide (B2.out.trans (b3.mono B2.out.size))
  have RB := hide ((rbytesT w3 a0 n0 cap0 l (HL.out.has.kept B3.out (Nat.le_refl _)) (by omega)).mono fun e w' h => bytesU h)
  replace H3 := hide H3
  replace I3 := hide I3
  clear SB b3 B2
  go_wp2_with fail
  refine RB.out.mono ?_
  rintro e w4 ⟨y, a4, n4, c4, e4, rfl, H4, I4, b4⟩
  have B4 := hide (B3.out.trans (b4.mono B3.out.size))
  obtain ⟨rfl, rfl⟩ := I3.out.same I4
  have H3' := hide (H3.out.kept b4 (Nat.le_refl _))
  have BY := hide (bytes_any w4 a1 n1 cap1 lb (HB.out.kept B4.out (Nat.le_refl _)) (by omega))
  replace H4 := hide H4
  clear RB b4 B3 H3 I3 I4
  go_wp2_with fail
  refine BY.out.mono ?_
  rintro e w5 ⟨a5, n5, c5, rfl, H5, b5, -⟩
  have B5 := hide (B4.out.trans (b5.mono B4.out.size))
  have hn5 : n5 = n1 := by rw [← H5.hlen, HB.out.hlen]
  subst hn5
  have RD := hide (readU_any w5 a5 n5 c5 lb m H5 (by omega) (ht.out.kept B5.out hpos.out))
  have H35 := hide (H3'.out.kept b5 (Nat.le_refl _))
  have H45 := hide (H4.out.kept b5 (Nat.le_refl _))
  clear BY b5 B4 H5 H3' H4
  go_wp2_with fail
  refine RD.out.mono ?_
  rintro e w6 ⟨p, a6, n6, c6, e6, rfl, H6, I6, b6⟩
  have B6 := hide (B5.out.trans (b6.mono B5.out.size))
  have RR := hide (rreadU_any w6 a1 n5 cap1 lb m (HB.out.kept B6.out (Nat.le_refl _)) (by omega))
  have H36 := hide (H35.out.kept b6 (Nat.le_refl _))
  have H46 := hide (H45.out.kept b6 (Nat.le_refl _))
  replace H6 := hide H6
  replace I6 := hide I6
  clear RD b6 B5 H35 H45
  go_wp2_with fail
  refine RR.out.mono ?_
  rintro e w7 ⟨q, a7, n7, c7, e7, rfl, H7, I7, b7⟩
  have B7 := hide (B6.out.trans (b7.mono B6.out.size))
  obtain ⟨rfl, rfl, rfl⟩ := I6.out.same I7
  have hn6 := I7.le
  have S1 := hide (same_yes w7 a3 a4 n3 n4 c3 c4 x x (H36.out.kept b7 (Nat.le_refl _)) (H46.out.kept b7 (Nat.le_refl _)) rfl)
  have S2 := hide (same_ints w7 a6 a7 n6 c6 c7 p (H6.out.kept b7 (Nat.le_refl _)) H7 (by omega))
  clear RR b7 B6 H36 H46 H6 H7 I6 I7
  go_wp2_with fail
  refine S1.out.mono ?_
  rintro e w8 ⟨rfl, rfl⟩
  clear S1
  go_wp2_with fail
  refine S2.out.mono ?_
  rintro e w9 ⟨rfl, b9⟩
  have B9 := hide (B7.out.trans (b9.mono B7.out.size))
  have KW := hide (works_any w9 (ht.out.kept B9.out hpos.out))
  clear S2 b9 B7
  go_wp2_with fail
  refine KW.out.mono ?_
  rintro e w10 ⟨rfl, b10⟩
  have B10 := hide (B9.out.trans (b10.mono B9.out.size))
  clear KW b10 B9
  go_wp2_with fail
  go_ret
  exact ⟨rfl, B10.out⟩
end Go.Proofs.YtpopkoedeckfoaaDoor
