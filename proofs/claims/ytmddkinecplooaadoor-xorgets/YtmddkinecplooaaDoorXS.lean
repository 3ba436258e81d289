/-
  The reference's Get, in one; a reader of the program beside one of the reference.
-/
import Derived.Test.YtmddkinecplooaaDoorXRa
import Derived.Test.YtmddkinecplooaaDoorXRb
import Derived.Test.YtmddkinecplooaaDoorXRc
import Derived.Test.YtmddkinecplooaaDoorXQ
namespace Go.Proofs.YtmddkinecplooaaDoor
open Go.RowKit
set_option linter.unusedVariables false
set_option linter.unusedSimpArgs false

section
variable {w : World} {base p m len cap : Nat} {ad : Option Addr} {l : List Int}
theorem rgX_ok (h : Ref w base p ad len cap m) (H : Has w ad len cap l) (hap : 0 < len → ∀ b off, ad = some ⟨b, off, none⟩ → b < base) (few : len ≤ 300) (h8 : m ≤ 8 * len) {n L a b V k a' b' : Nat} (hs : OkS n a b) (hL : L < 18446744073709551616) (hg : gX n L a b (num l) len m = some (V, k, a', b')) :
    Calls Tryd.prog 26 #[.pointer (some ⟨p, 0, none⟩), .agg #[.int .i64 (n : Int), .int .u64 (L : Int), .int .i64 (a : Int), .int .i64 (b : Int)]] w fun e w' => e = .returned (.tuple #[.agg #[.int .i64 ((n + 1 : Nat) : Int), .int .u64 (V : Int), .int .i64 (a' : Int), .int .i64 (b' : Int)], .int .u64 (V : Int), .int .i64 0]) ∧ Ref w' base p ad len cap (m + k) ∧ But (fun k => k = p) w w' := by
  have c0 := bit_lt (num l) len m
  have c1 := bit_lt (num l) len (m + 1)
  unfold gX at hg
  by_cases hn : n = 0
  · rw [if_pos hn] at hg
    subst hn
    split at hg
    · cases hg
    · cases hg
      exact rg0_ok h H hap few h8 hs (by omega) rfl
  · rw [if_neg hn] at hg
    unfold rX at hg
    by_cases h1 : 8 * len < m + 1
    · rw [if_pos h1] at hg; cases hg
    rw [if_neg h1] at hg
    by_cases h2 : rd (num l) len m 1 = 0
    · rw [if_pos h2] at hg
      cases hg
      simp only [Nat.xor_zero]
      exact rg1_z h H hap few h8 hn hs (by omega) h2
    rw [if_neg h2] at hg
    by_cases h3 : 8 * len < m + 2
    · rw [if_pos h3] at hg; cases hg
    rw [if_neg h3] at hg
    by_cases h4 : rd (num l) len (m + 1) 1 = 0
    · rw [if_pos h4] at hg
      cases hI : rI a b (num l) len m with
      | none => rw [hI] at hg; cases hg
      | some x =>
        rw [hI] at hg
        cases hg
        obtain ⟨i1, i2, i3, i4, i5, i6⟩ := rI_ok hs.w hI
        have hab : a + b ≤ 63 := by
          have := i5.1; have := lz_le x
          rcases hs.w with ⟨e1, e2⟩ | e1 <;> omega
        have := rg1_i h H hap few h8 hn hs (by omega) (by omega) (by omega) h4 hab rfl i1 rfl i2.symm (by rw [← i2]; exact i4) i3 hL rfl
        rw [Nat.add_assoc] at this
        exact this
    · rw [if_neg h4] at hg
      by_cases h5 : 8 * len < m + 14
      · rw [if_pos h5] at hg; cases hg
      rw [if_neg h5] at hg
      cases hO : rO a b (num l) len m (rd (num l) len (m + 2) 6) (rd (num l) len (m + 8) 6 + 1) with
      | none => rw [hO] at hg; cases hg
      | some x =>
        rw [hO] at hg
        cases hg
        unfold rO at hO
        split at hO
        · cases hO
        split at hO
        · cases hO
        split at hO
        · rename_i o1 o2 o3
          cases hO
          obtain ⟨k1, k2, k3, k4⟩ := o3
          have hx64 : rd (num l) len (m + 14) (rd (num l) len (m + 8) 6 + 1) * 2 ^ (64 - rd (num l) len (m + 2) 6 - (rd (num l) len (m + 8) 6 + 1)) < 18446744073709551616 := by
            have hr := rd_lt (num l) len (m + 14) (rd (num l) len (m + 8) 6 + 1)
            have h6 := shl_lt (a := rd (num l) len (m + 2) 6) (b := 64 - rd (num l) len (m + 2) 6 - (rd (num l) len (m + 8) 6 + 1)) (by omega) (by rw [show 64 - rd (num l) len (m + 2) 6 - (64 - rd (num l) len (m + 2) 6 - (rd (num l) len (m + 8) 6 + 1)) = rd (num l) len (m + 8) 6 + 1 by omega]; exact hr)
            have h7 := p64 (a := rd (num l) len (m + 2) 6)
            omega
          have := rg1_o h H hap few h8 hn hs (by omega) (by omega) (by omega) (by omega) (by omega) rfl rfl rfl (by omega) rfl rfl (by omega) rfl rfl hx64 k1 k2 k3 (by unfold inW at k4; rw [k2, k3] at k4; omega) hL rfl
          rw [Nat.add_assoc] at this
          exact this
        · cases hO
theorem rgX_no (h : Ref w base p ad len cap m) (H : Has w ad len cap l) (hap : 0 < len → ∀ b off, ad = some ⟨b, off, none⟩ → b < base) (few : len ≤ 300) (h8 : m ≤ 8 * len) {n L a b : Nat} (hs : OkS n a b) (hg : gX n L a b (num l) len m = none) :
    Calls Tryd.prog 26 #[.pointer (some ⟨p, 0, none⟩), .agg #[.int .i64 (n : Int), .int .u64 (L : Int), .int .i64 (a : Int), .int .i64 (b : Int)]] w fun e w' => e = .returned (.tuple #[.agg #[.int .i64 0, .int .u64 0, .int .i64 0, .int .i64 0], .int .u64 0, .int .i64 50]) ∧ But (fun k => k = p) w w' := by
  have c0 := bit_lt (num l) len m
  have c1 := bit_lt (num l) len (m + 1)
  unfold gX at hg
  by_cases hn : n = 0
  · rw [if_pos hn] at hg
    subst hn
    split at hg
    · exact rg0_no h H hap few h8 hs (by assumption)
    · cases hg
  · rw [if_neg hn] at hg
    unfold rX at hg
    by_cases h1 : 8 * len < m + 1
    · exact rg1_a h H hap few h8 hn hs h1
    rw [if_neg h1] at hg
    by_cases h2 : rd (num l) len m 1 = 0
    · rw [if_pos h2] at hg; cases hg
    rw [if_neg h2] at hg
    by_cases h3 : 8 * len < m + 2
    · exact rg1_b h H hap few h8 hn hs (by omega) (by omega) h3
    rw [if_neg h3] at hg
    by_cases h4 : rd (num l) len (m + 1) 1 = 0
    · rw [if_pos h4] at hg
      rcases hs.w with ⟨rfl, rfl⟩ | hab
      · exact rg1_64 h H hap few h8 hn hs (by omega) (by omega) (by omega) h4
      cases hI : rI a b (num l) len m with
      | some x => rw [hI] at hg; cases hg
      | none =>
        unfold rI at hI
        split at hI
        · exact rg1_is h H hap few h8 hn hs (by omega) (by omega) (by omega) h4 hab rfl (by assumption)
        · split at hI
          · rename_i h5 h6
            exact rg1_i0 h H hap few h8 hn hs (by omega) (by omega) (by omega) h4 hab rfl (by omega) rfl rfl (by rw [h6]; decide) h6
          · cases hI
    · rw [if_neg h4] at hg
      by_cases h5 : 8 * len < m + 14
      · exact rg1_o12 h H hap few h8 hn hs (by omega) (by omega) (by omega) (by omega) h5
      rw [if_neg h5] at hg
      cases hO : rO a b (num l) len m (rd (num l) len (m + 2) 6) (rd (num l) len (m + 8) 6 + 1) with
      | some x => rw [hO] at hg; cases hg
      | none =>
        unfold rO at hO
        split at hO
        · exact rg1_oL h H hap few h8 hn hs (by omega) (by omega) (by omega) (by omega) (by omega) rfl rfl rfl (by assumption)
        split at hO
        · exact rg1_os h H hap few h8 hn hs (by omega) (by omega) (by omega) (by omega) (by omega) rfl rfl rfl (by omega) rfl rfl (by omega)
        split at hO
        · cases hO
        · rename_i o1 o2 o3
          have hx64 : rd (num l) len (m + 14) (rd (num l) len (m + 8) 6 + 1) * 2 ^ (64 - rd (num l) len (m + 2) 6 - (rd (num l) len (m + 8) 6 + 1)) < 18446744073709551616 := by
            have hr := rd_lt (num l) len (m + 14) (rd (num l) len (m + 8) 6 + 1)
            have h6 := shl_lt (a := rd (num l) len (m + 2) 6) (b := 64 - rd (num l) len (m + 2) 6 - (rd (num l) len (m + 8) 6 + 1)) (by omega) (by rw [show 64 - rd (num l) len (m + 2) 6 - (64 - rd (num l) len (m + 2) 6 - (rd (num l) len (m + 8) 6 + 1)) = rd (num l) len (m + 8) 6 + 1 by omega]; exact hr)
            have h7 := p64 (a := rd (num l) len (m + 2) 6)
            omega
          by_cases hx0 : rd (num l) len (m + 14) (rd (num l) len (m + 8) 6 + 1) * 2 ^ (64 - rd (num l) len (m + 2) 6 - (rd (num l) len (m + 8) 6 + 1)) = 0
          · exact rg1_o0 h H hap few h8 hn hs (by omega) (by omega) (by omega) (by omega) (by omega) rfl rfl rfl (by omega) rfl rfl (by omega) rfl rfl hx64 hx0
          · refine rg1_on h H hap few h8 hn hs (by omega) (by omega) (by omega) (by omega) (by omega) rfl rfl rfl (by omega) rfl rfl (by omega) rfl rfl hx64 hx0 ?_
            have hlz := lz_le (rd (num l) len (m + 14) (rd (num l) len (m + 8) 6 + 1) * 2 ^ (64 - rd (num l) len (m + 2) 6 - (rd (num l) len (m + 8) 6 + 1)))
            unfold inW at o3
            generalize rd (num l) len (m + 14) (rd (num l) len (m + 8) 6 + 1) * 2 ^ (64 - rd (num l) len (m + 2) 6 - (rd (num l) len (m + 8) 6 + 1)) = x at *
            generalize lz x = P1 at *
            generalize tz x = Q1 at *
            omega
end

theorem getR_any {w : World} {base p : Nat} {v : Value} {l : List Int} (h : Rd w base p v l 0) (k : Nat) (hk : k ≤ 64) :
    Calls Tryd.prog 23 #[.pointer (some ⟨p, 0, none⟩), .int .i64 (k : Int)] w fun e w' => ∃ x y, e = .returned (.tuple #[.int .u64 x, .int .i64 y]) ∧ Rd w' base p v l (if k ≤ 8 * l.length then k else 0) ∧ Did w w' base p nul nul := by
  by_cases hr : k ≤ 8 * l.length
  · refine (getG h k rfl rfl rfl hk (by omega)).mono ?_
    rintro e w' ⟨rfl, R, D⟩
    rw [Nat.zero_add] at R
    exact ⟨_, _, rfl, by rw [if_pos hr]; exact R, D⟩
  · refine (getRdBits h k hk (by omega)).mono ?_
    rintro e w' ⟨rfl, j, rfl⟩
    exact ⟨_, _, rfl, by rw [if_neg hr]; exact h.drewN j, (Did.refl _ _ _ _).drewN j⟩
theorem getRf_any {w : World} {base p len cap : Nat} {a : Option Addr} {l : List Int} (h : Ref w base p a len cap 0) (H : Has w a len cap l) (hap : 0 < len → ∀ b off, a = some ⟨b, off, none⟩ → b < base) (hlen : len ≤ 300) (k : Nat) (hk : k ≤ 64) :
    Calls Tryd.prog 24 #[.pointer (some ⟨p, 0, none⟩), .int .i64 (k : Int)] w fun e w' => ∃ x y, e = .returned (.tuple #[.int .u64 x, .int .i64 y]) ∧ Ref w' base p a len cap (if k ≤ 8 * len then k else 0) ∧ But (fun i => i = p) w w' := by
  by_cases hr : k ≤ 8 * len
  · refine (rget_ok h H hap hlen k hk (by omega)).mono ?_
    rintro e w' ⟨rfl, R, B⟩
    rw [Nat.zero_add] at R
    exact ⟨_, _, rfl, by rw [if_pos hr]; exact R, B⟩
  · refine (rget_bits h hlen k hk (by omega) (by omega)).mono ?_
    rintro e w' ⟨rfl, j, rfl⟩
    exact ⟨_, _, rfl, by rw [if_neg hr]; exact h.drewN j, (But.refl _ _).drewNX j⟩

/-- A reader of the program beside one of the reference. -/
structure QB (w0 w : World) (base q : Nat) (v : Value) (n r : Nat) (ad : Option Addr) (len cap : Nat) (l : List Int) (m : Nat) : Prop where
  rd : Rd w base q v l n
  rf : Ref w base r ad len cap m
  H : Has w ad len cap l
  t : Tab w
  bel : Below base w0 w
  nf : ¬ fp q v r
  b0 : 0 < base
  hap : 0 < len → ∀ b off, ad = some ⟨b, off, none⟩ → b < base
section
variable {w0 w w' : World} {base q n n' r len cap m m' : Nat} {v : Value} {ad : Option Addr} {l : List Int}
theorem QB.below (h : QB w0 w base q v n r ad len cap l m) (hb : Below w.heap.size w w') : QB w0 w' base q v n r ad len cap l m :=
  ⟨h.rd.below hb (Nat.le_refl _), h.rf.below hb (Nat.le_refl _), h.H.kept hb (Nat.le_refl _), h.t.below hb, h.bel.trans (hb.mono (by have := h.rd.lt; omega)), h.nf, h.b0, h.hap⟩
theorem QB.alloc (h : QB w0 w base q v n r ad len cap l m) (o : Obj) : QB w0 (w.alloc o) base q v n r ad len cap l m := h.below ((Below.refl _ _).alloc (Nat.le_refl _) _)
theorem QB.getq (h : QB w0 w base q v n r ad len cap l m) (d : Did w w' base q nul nul) (hr : Rd w' base q v l n') : QB w0 w' base q v n' r ad len cap l m :=
  ⟨hr, h.rf.kept d.but (nf_nul h.nf), h.H.low d.bel h.hap, h.t.did d h.b0, h.bel.trans d.bel, h.nf, h.b0, h.hap⟩
theorem QB.getr (h : QB w0 w base q v n r ad len cap l m) (hb : But (fun k => k = r) w w') (hr : Ref w' base r ad len cap m') : QB w0 w' base q v n r ad len cap l m' :=
  ⟨⟨h.rd.1.kept hb (fun k hk => by rw [hk]; exact h.nf), h.rd.2⟩, hr, h.H.low (h.rf.bel hb) h.hap, h.t.kept (h.rf.bel hb) h.b0, h.bel.trans (h.rf.bel hb), h.nf, h.b0, h.hap⟩
theorem QB.drew (h : QB w0 w base q v n r ad len cap l m) : QB w0 w.drew base q v n r ad len cap l m := ⟨h.rd.drew, ⟨h.rf.heap, h.rf.ge⟩, ⟨h.H.hlen, h.H.le, h.H.capb, h.H.nil, h.H.cells, h.H.bytes⟩, h.t, below_drew h.bel, h.nf, h.b0, h.hap⟩
theorem QB.start (h : Rd w base q v l 0) (H : Has w ad len cap l) (ht : Tab w) (hb : Below base w0 w) (hb0 : 0 < base) (hap : 0 < len → ∀ b off, ad = some ⟨b, off, none⟩ → b < base) : QB w0 (w.alloc (.cells #[.slice ad len cap, .int .i64 0] 52)) base q v 0 w.heap.size ad len cap l 0 := by
  have B : Below w.heap.size w (w.alloc (.cells #[.slice ad len cap, .int .i64 0] 52)) := (Below.refl _ _).alloc (Nat.le_refl _) _
  have hl := h.lt
  exact ⟨h.below B (Nat.le_refl _), ⟨heap_alloc_new w _, by omega⟩, H.kept B (Nat.le_refl _), ht.below B, hb.trans (B.mono (by omega)), h.not (Nat.le_refl _), hb0, hap⟩
end
end Go.Proofs.YtmddkinecplooaaDoor
