/-
  The walk of XorBytes.
-/
import Derived.Test.YtmddkinecplooaaDoorYR
import Derived.Test.YtmddkinecplooaaDoorYB
import Derived.Test.YtmddkinecplooaaDoorI
import Derived.Deep.QuietTactic
import Derived.BigQuiet
namespace Go.Proofs.YtmddkinecplooaaDoor
open Go.ChangeShapes Go.WideShapes Go.ChangeAt Go.RowKit
set_option linter.unusedVariables false
set_option linter.unusedSimpArgs false

/-- A slice of values; one of nil has no room. -/
structure HasN (w : World) (a : Option Addr) (len cap : Nat) (l : List Int) : Prop where
  has : HasU w a len cap l
  nil : a = none → cap = 0
theorem came_u64sn {H : Type} {enc : TypeId × Value → H} {W : World} {base : Nat} {a : Option Addr} {len cap : Nat} {d : DataW H} {p : List MemPlace} (h : DataW.Trod enc Tryd.prog W base (fun _ => true) true 60 (.slice a len cap) d p) : ∃ l, HasN W a len cap l := by
  obtain ⟨l, hl⟩ := came_u64s h
  obtain ⟨fuel, hf⟩ := h
  rcases open_ints Tryd.underlying60 Tryd.underlying22 (by kernel_rfl) hf with ⟨hcs, _⟩ | ⟨x, l', c, zs, hcs, _⟩
  · simp [Value.cells] at hcs
    obtain ⟨rfl, rfl, rfl⟩ := hcs
    exact ⟨l, hl, fun _ => rfl⟩
  · simp [Value.cells] at hcs
    obtain ⟨rfl, rfl, rfl⟩ := hcs
    exact ⟨l, hl, fun h => by cases h⟩
theorem HasU.front {w : World} {a : Option Addr} {len cap : Nat} {l : List Int} (h : HasU w a len cap l) (k : Nat) (hk : k ≤ len) : HasU w a k cap (l.take k) := by
  have hl := h.hlen
  refine ⟨by simp; omega, Nat.le_trans hk h.le, h.capb, fun hp => ?_, fun x hx => h.range x (List.mem_of_mem_take hx)⟩
  obtain ⟨b, off, e1, e2, e3⟩ := h.cells (by omega)
  refine ⟨b, off, e1, e2, fun i hi => ?_⟩
  rw [e3 i (by omega)]
  simp [List.getD, hi]
theorem hasU_nil (w : World) : HasU w none 0 0 [] := ⟨rfl, Nat.le_refl _, Nat.zero_le _, fun h => by omega, fun x hx => by simp at hx⟩

/-- append of a slice of values to an empty row. -/
theorem wpList_appU {w : World} {ops : Array Oper} {rest : List Oper} {o : Oper} {a : Act} {Q : Exit → Act → World → Prop} (hgd : o.guard = none) (s x : Operand)
    (ho : o.op = .call { callee := .builtin .append, args := #[s, x], argTypes := #[60, 60] }) (base g : Nat) (hs : a.eval s = .slice (some ⟨g, 0, none⟩) 0 0) (hown : w.ownsRow base 22 1 (.slice (some ⟨g, 0, none⟩) 0 0) 0 (([] : List Int).map (Value.int .u64)))
    (ad : Option Addr) (len cap : Nat) (l : List Int) (hx : a.eval x = .slice ad len cap) (H : HasU w ad len cap l) (hn : ad = none → cap = 0) (hb : len ≤ 1000000) (hbase : base ≤ w.heap.size)
    (h : ∀ a' cap' w', HasU w' a' len cap' l → Below base w w' → wpList Tryd.prog ops Q rest (a.put o.dst (.slice a' len cap')) w') :
    wpList Tryd.prog ops Q (o :: rest) a w := by
  obtain ⟨i0, hi, hz0, hz1, hz2⟩ := info_parts info22
  have hle := H.le
  have hll := H.hlen
  cases ad with
  | none =>
    have hc := hn rfl
    subst hc
    obtain rfl : len = 0 := by omega
    obtain rfl : l = [] := List.eq_nil_of_length_eq_zero hll
    refine wpList_append_own_none hgd s x 60 ho base 22 i0 1 Tryd.underlying60 hi _ 0 _ hs hown hx ?_
    obtain ⟨a', cap', e, hh⟩ := hasU_of_owns hown (fun x hx => by simp at hx)
    cases e
    exact h _ _ _ hh (Below.refl _ _)
  | some ad =>
    have hcs : ∀ j u, (l.map (Value.int .u64))[j]? = some u → w.cell? (ad.add j) = some u := by
      intro j u hj
      have hjl : j < l.length := by
        rcases Nat.lt_or_ge j l.length with h | h
        · exact h
        · rw [List.getElem?_eq_none (by simpa using h)] at hj; cases hj
      obtain ⟨b, off, e1, e2, e3⟩ := H.cells (by omega)
      cases e1
      rw [List.getElem?_map, List.getElem?_eq_getElem hjl] at hj
      simp only [Option.map_some, Option.some.injEq] at hj
      subst hj
      rw [add_plain, e3 j (by omega)]
      simp [List.getD, List.getElem?_eq_getElem hjl]
    refine wpList_append_own _ hgd s x 60 ho base 22 i0 (.int .u64 0) 1 8 Tryd.underlying60 hi hz0 hz1 hz2 rfl (by decide) _ 0 _ hs hown ad len cap (l.map (Value.int .u64)) hx (by simp [hll]) hcs (nums_oneCell _) (by unfold maxLen; omega) (by omega) hbase ?_
    intro v' w' h1 h2 h3
    obtain ⟨a', cap', e, hh⟩ := hasU_of_owns (n := 0 + len) (l := l) (by simpa using h1) H.range
    rw [Nat.zero_add] at e hh
    subst e
    exact h _ _ _ hh ((Below.refl _ _).grown h2 hbase (fun k hk => (hown.lt k hk).1))

def IsR (V N : Nat) (m : Int) (n : Nat) (ts : List Int) (er : Int) : Prop :=
  (isCnt m = false ∧ n = 0 ∧ ts = [] ∧ er = 2) ∨ (isCnt m = true ∧ ((∃ L a b P, rdA V N m.toNat = some (L, a, b, P, ts) ∧ n = m.toNat ∧ er = 0) ∨ (rdA V N m.toNat = none ∧ n = 0 ∧ ts = [] ∧ er = 50)))
theorem IsR.same {V N : Nat} {m : Int} {n n' : Nat} {x y : List Int} {e f : Int} (h : IsR V N m n x e) (k : IsR V N m n' y f) : n = n' ∧ x = y ∧ e = f := by
  rcases h with ⟨h1, h2, h3, h4⟩ | ⟨h1, ⟨L, a, b, P, h2, h3, h4⟩ | ⟨h2, h3, h4, h5⟩⟩ <;> rcases k with ⟨k1, k2, k3, k4⟩ | ⟨k1, ⟨L', a', b', P', k2, k3, k4⟩ | ⟨k2, k3, k4, k5⟩⟩
  · exact ⟨by rw [h2, k2], by rw [h3, k3], by rw [h4, k4]⟩
  · rw [h1] at k1; cases k1
  · rw [h1] at k1; cases k1
  · rw [h1] at k1; cases k1
  · have h5 := h2.symm.trans k2
    simp only [Option.some.injEq, Prod.mk.injEq] at h5
    exact ⟨by rw [h3, k3], h5.2.2.2.2, by rw [h4, k4]⟩
  · rw [h2] at k2; cases k2
  · rw [h1] at k1; cases k1
  · rw [h2] at k2; cases k2
  · exact ⟨by rw [h3, k3], by rw [h4, k4], by rw [h5, k5]⟩
theorem IsR.le {V N : Nat} {m : Int} {n : Nat} {x : List Int} {e : Int} (h : IsR V N m n x e) : n ≤ 4096 := by
  rcases h with ⟨h1, h2, h3, h4⟩ | ⟨h1, ⟨L, a, b, P, h2, h3, h4⟩ | ⟨h2, h3, h4, h5⟩⟩
  · omega
  · simp [isCnt] at h1; omega
  · omega
def ReadU (V N : Nat) (m : Int) (w : World) (e : Ending) (w' : World) : Prop :=
  ∃ ts a n cap er, e = .returned (.tuple #[.slice a n cap, .int .i64 er]) ∧ HasU w' a n cap ts ∧ IsR V N m n ts er ∧ Below w.heap.size w w'
theorem readU {V N m : Nat} {w w' : World} {e : Ending} (hm : m ≤ 4096) (h : ReadT V N m w e w') : ReadU V N (m : Int) w e w' := by
  have hc : isCnt (m : Int) = true := by simp [isCnt]; omega
  obtain ⟨⟨L, a, b, P, ts, ad, cap, h1, h2, h3⟩ | ⟨h1, h2⟩, bb⟩ := h
  · exact ⟨ts, ad, m, cap, 0, h2, h3, .inr ⟨hc, .inl ⟨L, a, b, P, h1, by simp, rfl⟩⟩, bb⟩
  · exact ⟨[], none, 0, 0, 50, h2, hasU_nil _, .inr ⟨hc, .inr ⟨h1, rfl, rfl, rfl⟩⟩, bb⟩
theorem cnt_nat {m : Int} (h : isCnt m = true) : ∃ k : Nat, m = (k : Int) ∧ k ≤ 4096 := by
  simp [isCnt] at h
  exact ⟨m.toNat, by omega, by omega⟩
theorem readU_any (w : World) (a : Option Addr) (len cap : Nat) (lb : List Int) (m : Int) (H : Has w a len cap lb) (hlen : len ≤ 300) (hT : Tab w) :
    Calls Tryd.prog 30 #[.slice a len cap, .int .i64 m] w (ReadU (num lb) lb.length m w) := by
  cases hc : isCnt m
  · refine (read_bad w a len cap m hc).mono ?_
    rintro e w' ⟨rfl, b⟩
    exact ⟨[], none, 0, 0, 2, rfl, hasU_nil _, .inl ⟨hc, rfl, rfl, rfl⟩, b⟩
  · obtain ⟨k, rfl, hk⟩ := cnt_nat hc
    exact (read_any w a len cap lb k hk H (by omega) hT).mono fun e w' h => readU hk h
theorem rreadU_any (w : World) (a : Option Addr) (len cap : Nat) (lb : List Int) (m : Int) (H : Has w a len cap lb) (hlen : len ≤ 300) :
    Calls Tryd.prog 32 #[.slice a len cap, .int .i64 m] w (ReadU (num lb) lb.length m w) := by
  cases hc : isCnt m
  · refine (rread_bad w a len cap m hc).mono ?_
    rintro e w' ⟨rfl, rfl⟩
    exact ⟨[], none, 0, 0, 2, rfl, hasU_nil _, .inl ⟨hc, rfl, rfl, rfl⟩, Below.refl _ _⟩
  · obtain ⟨k, rfl, hk⟩ := cnt_nat hc
    exact (rread_any w a len cap lb k hk H hlen).mono fun e w' h => readU hk h
/-- What Bytes wrote, Read hands back. -/
theorem back_any (w : World) (a : Option Addr) (n cap : Nat) (lw l : List Int) (len : Nat) (H : Has w a n cap lw) (hv : OkV l) (hl : l.length = len) (h6 : len ≤ 60) (hH : Holds lw (numP (fB l) (xB l) len) (posP (fB l) len)) (hT : Tab w) :
    Calls Tryd.prog 30 #[.slice a n cap, .int .i64 (len : Int)] w fun e w' => ∃ a' cap', e = .returned (.tuple #[.slice a' len cap', .int .i64 0]) ∧ HasU w' a' len cap' l ∧ Below w.heap.size w w' := by
  have h1 := posB_le hv len (by omega)
  have h2 := hH.hi
  have h3 := H.hlen
  refine (read_any w a n cap lw len (by omega) H (by omega) hT).mono ?_
  rintro e w' ⟨⟨L, A, B, P, ts, ad, c', k1, k2, k3⟩ | ⟨k1, k2⟩, bb⟩
  · have h4 := rdA_back hv hl (by omega) hH len (Nat.le_refl _)
    rw [h4] at k1
    simp only [Option.some.injEq, Prod.mk.injEq] at k1
    have h5 : ts = l := by rw [← k1.2.2.2.2, ← hl, List.take_length]
    subst h5
    exact ⟨_, _, k2, k3, bb⟩
  · have h4 := rdA_back hv hl (by omega) hH len (Nat.le_refl _)
    rw [h4] at k1
    cases k1

set_option maxRecDepth 100000 in
set_option maxHeartbeats 4000000 in
theorem bytes_walk0 (a0 : Option Addr) (len0 cap0 n0 : Nat) (l : List Int) (a1 : Option Addr) (len1 cap1 n1 : Nat) (lb : List Int) (m : Int) (w : World) (ht : Tab w) (HL : HasN w a0 n0 cap0 l) (HB : Has w a1 n1 cap1 lb) (hn0 : n0 ≤ 60) (hn1 : n1 ≤ 300)
    (hle0 : len0 ≤ cap0) (hcb0 : cap0 ≤ maxLen) (hle1 : len1 ≤ cap1) (hcb1 : cap1 ≤ maxLen)
    (ek0 : (if (60 : Int) < (len0 : Int) then 60 else (len0 : Int)) = (n0 : Int)) (ek1 : (if (300 : Int) < (len1 : Int) then 300 else (len1 : Int)) = (n1 : Int)) :
    Calls Tryd.prog 5 #[.slice a0 len0 cap0, .slice a1 len1 cap1, .int .i64 m] w fun e w' => e = .returned (.bool true) ∧ Below w.heap.size w w' := by
  have k0 : (n0 : Int) ≤ (cap0 : Int) := by have := HL.has.le; omega
  have k1 : (n1 : Int) ≤ (cap1 : Int) := by have := HB.le; omega
  unfold maxLen at hcb0 hcb1
  have hpos := hide ht.pos
  have hv := hide (show OkV l from HL.has.range)
  have hll := hide HL.has.hlen
  replace HL := hide HL
  replace HB := hide HB
  replace ht := hide ht
  go_enter Tryd.func5, Tryd.ntmps5
  go_upto_region 1 with fail
  go_quiet (fail)
  have B1 := hide (below_drewN (Below.refl w.heap.size w) nq)
  generalize w.drewN nq = w1 at *
  have Ba := hide (B1.out.alloc B1.out.size (.cells #[] 22))
  have Oa := hide (owns_empty22 w1)
  have Ha := hide (HL.out.has.kept Ba.out (Nat.le_refl _))
  have hsa : Hid (w1.heap.size ≤ (w1.alloc (.cells #[] 22)).heap.size) := by show _ ≤ _; simp
  have hn0' : n0 ≤ 1000000 := by omega
  have hns := hide HL.out.nil
  go_wp2_with (refine wpList_appU rfl (.tmp 28) (.tmp 29) rfl w1.heap.size w1.heap.size rfl Oa.out a0 n0 cap0 l rfl Ha.out hns.out hn0' hsa.out ?_; intro a2 c2 w2 H2 b2)
  have B2 := hide (Ba.out.trans (b2.mono B1.out.size))
  have SB := hide (sbytes_any w2 a2 n0 c2 l H2 (by omega) (ht.out.kept B2.out hpos.out))
  clear Ba Oa Ha hsa hns b2 B1 H2
  go_wp2_with fail
  refine SB.out.mono ?_
  rintro e w3 ⟨x, a3, n3, c3, I3, rfl, H3, b3⟩
  have B3 := hide (B2.out.trans (b3.mono B2.out.size))
  have RB := hide (rbytesT w3 a0 n0 cap0 l (HL.out.has.kept B3.out (Nat.le_refl _)) (by omega))
  replace H3 := hide H3
  replace I3 := hide I3
  clear SB b3 B2
  go_wp2_with fail
  refine RB.out.mono ?_
  rintro e w4 ⟨y, a4, n4, c4, I4, rfl, H4, b4⟩
  have B4 := hide (B3.out.trans (b4.mono B3.out.size))
  obtain rfl := I3.out.same I4
  have H3' := hide (H3.out.kept b4 (Nat.le_refl _))
  have BY := hide (bytes_any w4 a1 n1 cap1 lb (HB.out.kept B4.out (Nat.le_refl _)) (by omega))
  replace H4 := hide H4
  clear RB b4 B3 H3 I4
  go_wp2_with fail
  refine BY.out.mono ?_
  rintro e w5 ⟨a5, n5, c5, rfl, H5, b5, -⟩
  have B5 := hide (B4.out.trans (b5.mono B4.out.size))
  have hn5 : n5 = n1 := by rw [← H5.hlen, HB.out.hlen]
  subst hn5
  have RD := hide (readU_any w5 a5 n5 c5 lb m H5 (by omega) (ht.out.kept B5.out hpos.out))
  have H35 := hide (H3'.out.kept b5 (Nat.le_refl _))
  have H45 := hide (H4.out.kept b5 (Nat.le_refl _))
  clear BY b5 B4 H5 H3' H4
  go_wp2_with fail
  refine RD.out.mono ?_
  rintro e w6 ⟨p, a6, n6, c6, e6, rfl, H6, I6, b6⟩
  have B6 := hide (B5.out.trans (b6.mono B5.out.size))
  have RR := hide (rreadU_any w6 a1 n5 cap1 lb m (HB.out.kept B6.out (Nat.le_refl _)) (by omega))
  have H36 := hide (H35.out.kept b6 (Nat.le_refl _))
  have H46 := hide (H45.out.kept b6 (Nat.le_refl _))
  replace H6 := hide H6
  replace I6 := hide I6
  clear RD b6 B5 H35 H45
  go_wp2_with fail
  refine RR.out.mono ?_
  rintro e w7 ⟨q, a7, n7, c7, e7, rfl, H7, I7, b7⟩
  have B7 := hide (B6.out.trans (b7.mono B6.out.size))
  obtain ⟨rfl, rfl, rfl⟩ := I6.out.same I7
  have hn6 := I7.le
  have H67 := hide (H6.out.kept b7 (Nat.le_refl _))
  have H37 := hide (H36.out.kept b7 (Nat.le_refl _))
  have H47 := hide (H46.out.kept b7 (Nat.le_refl _))
  have BK := hide (back_any w7 a3 n3 c3 x l n0 H37.out hv.out hll.out hn0 I3.out (ht.out.kept B7.out hpos.out))
  replace H7 := hide H7
  clear RR b7 B6 H36 H46 H6 I6 I7
  go_wp2_with fail
  refine BK.out.mono ?_
  rintro e w8 ⟨a8, c8, rfl, H8, b8⟩
  have B8 := hide (B7.out.trans (b8.mono B7.out.size))
  have S1 := hide (same_yes w8 a3 a4 n3 n4 c3 c4 x x (H37.out.kept b8 (Nat.le_refl _)) (H47.out.kept b8 (Nat.le_refl _)) rfl)
  have S2 := hide (same_u64s w8 a6 a7 n6 c6 c7 p (H67.out.kept b8 (Nat.le_refl _)) (H7.out.kept b8 (Nat.le_refl _)) (by omega))
  replace H8 := hide H8
  clear BK b8 B7 H37 H47 H67 H7
  go_wp2_with fail
  refine S1.out.mono ?_
  rintro e w9 ⟨rfl, rfl⟩
  clear S1
  go_wp2_with fail
  refine S2.out.mono ?_
  rintro e w10 ⟨rfl, b10⟩
  have B10 := hide (B8.out.trans (b10.mono B8.out.size))
  have S3 := hide (same_u64s w10 a8 a0 n0 c8 cap0 l (H8.out.kept b10 (Nat.le_refl _)) (HL.out.has.kept B10.out (Nat.le_refl _)) hn0')
  clear S2 b10 B8 H8
  go_wp2_with fail
  refine S3.out.mono ?_
  rintro e w11 ⟨rfl, b11⟩
  have B11 := hide (B10.out.trans (b11.mono B10.out.size))
  have KW := hide (works_any w11 (ht.out.kept B11.out hpos.out))
  clear S3 b11 B10
  go_wp2_with fail
  refine KW.out.mono ?_
  rintro e w12 ⟨rfl, b12⟩
  have B12 := hide (B11.out.trans (b12.mono B11.out.size))
  clear KW b12 B11
  go_wp2_with fail
  go_ret
  exact ⟨rfl, B12.out⟩
end Go.Proofs.YtmddkinecplooaaDoor
