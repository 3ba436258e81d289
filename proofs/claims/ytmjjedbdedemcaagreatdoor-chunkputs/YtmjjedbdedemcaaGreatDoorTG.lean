/-
  A builder's bytes; chunk.Put.
-/
import Derived.Test.YtmjjedbdedemcaaGreatDoorTF
namespace Go.Proofs.YtmjjedbdedemcaaGreatDoor
open Go.RowKit
set_option linter.unusedVariables false
set_option linter.unusedSimpArgs false

/-- A slice and an OK come out. -/
def Ok2 (w : World) (c : List Int) (e : Ending) (w' : World) : Prop := ∃ a n cap, e = .returned (.tuple #[.slice a n cap, .int .i64 0]) ∧ Has w' a n cap c ∧ Below w.heap.size w w'
set_option maxHeartbeats 2000000 in
set_option maxRecDepth 100000 in
theorem bbytes_any {w : World} {base q p A k : Nat} {v : Value} {z : Z} (h : Bd w base q p v z A k) (hT : Tabs w) (h1 : 1 ≤ z.n) (h2 : z.n ≤ 4096) (hk : k ≤ 15600) {B : List Int} (hB : Holds B A k) :
    Calls Tryz.prog 12 #[.pointer (some ⟨q, 0, none⟩)] w (Ok2 w (chunkB z.n B)) := by
  have hBl : B.length ≤ 65536 := by have := hB.hi; omega
  have hpos := hT.pos
  obtain ⟨n, hn⟩ : ∃ n, z.n = n := ⟨_, rfl⟩
  have c7 := h.bx.cell 7
  simp only [List.getElem?_toArray, List.getElem?_cons_zero, List.getElem?_cons_succ] at c7
  have LN := hide (len_any h)
  have MD := hide (isMade_any h)
  rw [hn] at LN h1 h2
  unfold chunkB
  rw [hn]
  have i1 : (1 : Int) ≤ (n : Int) := by omega
  have i2 : (n : Int) ≤ 4096 := by omega
  have i3 : ¬ ((n : Int) = 0) := by omega
  replace h := hide h
  replace hB := hide hB
  replace hn := hide hn
  go_enter Tryz.func12, Tryz.ntmps12
  go_wp2_with fail
  refine MD.out.mono ?_
  rintro e wx ⟨rfl, rfl⟩
  go_wp2_with fail
  refine LN.out.mono ?_
  rintro e wx ⟨rfl, rfl⟩
  go_wp2_with fail
  refine LN.out.mono ?_
  rintro e wx ⟨rfl, rfl⟩
  clear MD LN
  go_wp2_with fail
  have P1 := Put_any wx none 0 0 [] (n : Int) (has_nil wx) (by omega) (by omega) (by omega)
  refine P1.mono ?_
  rintro e w1 ⟨a1, l1, k1, rfl, H1, b1, -⟩
  simp only [List.nil_append, Int.toNat_natCast] at H1
  have BY := hide (bytesWr (h.out.wr.below b1 (Nat.le_refl _)) (by omega) B hB.out)
  have c7' := (b1.cell (p := ⟨q, 7, none⟩) h.out.bx.lt).trans c7
  have T1 := hide (hT.below b1)
  replace H1 := hide H1
  replace b1 := hide b1
  clear P1 c7
  go_wp2_with fail
  refine BY.out.mono ?_
  rintro e w2 ⟨a2, l2, k2, rfl, H2, b2, -⟩
  have hl2 := H2.hlen
  have hl1 := H1.out.hlen
  have he1 := enc_len n
  have PB := hide (PutBytes_any w2 a1 l1 k1 (enc n) (H1.out.kept b2 (Nat.le_refl _)) (by omega) a2 l2 k2 B H2 (by omega))
  have B2 := hide (b1.out.trans (b2.mono b1.out.size))
  have T2 := hide (T1.out.below b2)
  replace hl2 := hide hl2
  replace hl1 := hide hl1
  replace he1 := hide he1
  clear BY c7' H2 b2 T1 b1
  go_wp2_with fail
  refine PB.out.mono ?_
  rintro e w3 ⟨a3, l3, k3, rfl, H3, b3⟩
  rw [← hl2.out] at H3
  have hl3 := H3.hlen
  have B3 := hide (B2.out.trans (b3.mono B2.out.size))
  have T3 := hide (T2.out.below b3)
  have SE := hide (sealed_any w3 a3 l3 k3 _ H3 (by simp only [List.length_append] at hl3; have := he1.out; have := enc_len B.length; omega) T3.out.c)
  replace hl3 := hide hl3
  clear PB H3 b3 B2 T2
  go_wp2_with fail
  refine SE.out.mono ?_
  rintro e w4 ⟨a4, l4, k4, rfl, H4, b4, -⟩
  have B4 := hide (B3.out.trans (b4.mono B3.out.size))
  replace H4 := hide H4
  clear SE b4 B3
  go_wp2_with fail
  go_ret2
  exact ⟨a4, l4, k4, rfl, H4.out, B4.out⟩
set_option maxHeartbeats 1000000 in
theorem bbytes_none {w : World} {base q p A k : Nat} {v : Value} {z : Z} (h : Bd w base q p v z A k) (h1 : z.n = 0) :
    Calls Tryz.prog 12 #[.pointer (some ⟨q, 0, none⟩)] w fun e w' => e = .returned (.tuple #[.slice none 0 0, .int .i64 2]) ∧ w' = w := by
  have LN := hide (len_any h)
  have MD := hide (isMade_any h)
  rw [h1] at LN
  simp only [show ((0 : Nat) : Int) = 0 from rfl] at LN
  clear h
  go_enter Tryz.func12, Tryz.ntmps12
  go_wp2_with fail
  refine MD.out.mono ?_
  rintro e wx ⟨rfl, rfl⟩
  go_wp2_with fail
  refine LN.out.mono ?_
  rintro e wx ⟨rfl, rfl⟩
  go_wp2_with fail
  go_ret2
  exact ⟨rfl, rfl⟩

/-- A sample whose time may be one, as a sample. -/
def up (s : Sm) : Smp := ((s.1 : Int), s.2)
theorem up_one {s t : Sm} (h : up s = up t) : s = t := by
  obtain ⟨a, b⟩ := s
  obtain ⟨c, d⟩ := t
  simp only [up, Prod.mk.injEq] at h
  exact Prod.ext (by simp only; omega) (by simp only; omega)
theorem up_inj : ∀ {l m : List Sm}, l.map up = m.map up → l = m
  | [], [], _ => rfl
  | [], _ :: _, h => by simp at h
  | _ :: _, [], h => by simp at h
  | s :: l, t :: m, h => by
    simp only [List.map_cons, List.cons.injEq] at h
    rw [up_one h.1, up_inj h.2]
theorem okL_vb (l : List Sm) (z : Z) (h : OkL z l) : ∀ s ∈ l.map up, s.2 < 18446744073709551616 := fun s hs => by
  obtain ⟨t, ht, rfl⟩ := List.mem_map.1 hs
  exact okL_v64 l z h t ht
/-- What Put hands out: of the list L the samples ss may be put, one behind the other, and these are all of it, or the next one may not. -/
def PutR (w : World) (ss : List Sm) (len : Nat) (e : Ending) (w' : World) : Prop :=
  ((ss.length = len ∧ 1 ≤ len ∧ ∃ c a n cap, IsC ss c ∧ e = .returned (.tuple #[.slice a n cap, .int .i64 0]) ∧ Has w' a n cap c) ∨ (len = 0 ∧ e = .returned (.tuple #[.slice none 0 0, .int .i64 2])) ∨ (ss.length < len ∧ e = .returned (.tuple #[.slice none 0 0, .int .i64 60]))) ∧ Below w.heap.size w w'
theorem take_snocS {ss : List Sm} {k : Nat} (hk : k < ss.length) : ss.take (k + 1) = ss.take k ++ [ss.getD k (0, 0)] := by
  rw [List.take_add_one, List.getElem?_eq_getElem hk]
  simp [List.getD, List.getElem?_eq_getElem hk]
theorem ok_at {ss : List Sm} {k : Nat} (h : OkL z0 ss) (hk : k < ss.length) : OkN (fin z0 (ss.take k)) (ss.getD k (0, 0)) := by
  have := okL_take ss z0 (k + 1) h
  rw [take_snocS hk, okL_snoc] at this
  exact this.2

set_option maxHeartbeats 4000000 in
set_option maxRecDepth 100000 in
theorem cPut_any (w : World) (a : Option Addr) (len cap : Nat) (L : List Smp) (h : HasS w a len cap L) (hT : Tabs w) (h120 : len ≤ 120) (ss : List Sm) (hle : ss.length ≤ len) (hpre : ∀ i, i < ss.length → L.getD i noSmp = up (ss.getD i (0, 0)))
    (hok : OkL z0 ss) (hend : ss.length < len → okTI ((fin z0 ss).n : Int) ((fin z0 ss).L : Int) (L.getD ss.length noSmp).1 = false) :
    Calls Tryz.prog 6 #[.slice a len cap] w (PutR w ss len) := by
  have hpos := hT.pos
  have i1 : (len : Int) ≤ 120 := by omega
  have hcells := hide h.cells
  have hvb := hide h.vb
  have NW := hide (new_any w w.heap.size (Nat.le_refl _))
  clear h
  go_enter Tryz.func6, Tryz.ntmps6
  go_wp2_with fail
  refine NW.out.mono ?_
  rintro e w1 ⟨q, p, rfl, b1, D1, -, -⟩
  have T1 := hide (hT.below b1)
  replace b1 := hide b1
  replace D1 := hide D1
  clear NW
  go_wp2_with fail
  go_loopw [14] (fun iv wr => ∃ (k : Nat) (v : Value), k ≤ ss.length ∧ iv = .int .i64 (k : Int) ∧ Hid (Bd wr w.heap.size q p v (fin z0 (ss.take k)) (eX z0 (ss.take k)) (eN z0 (ss.take k))) ∧ Hid (Below w.heap.size w wr)) (fun iv _ => len - (intOf iv).toNat)
  case atStart => exact ⟨0, _, Nat.zero_le _, rfl, D1, b1⟩
  case round =>
    obtain ⟨k, v, hk, rfl, D, B⟩ := hrel
    clear D1 b1 T1
    have hTr := hide (hT.below B.out)
    have hfk : (fin z0 (ss.take k)).n = k := by rw [fin_n]; simp [z0]; omega
    have hok2 := okL_take ss z0 k hok
    have hzk : OkZ (fin z0 (ss.take k)) := ok_fin _ z0 ok_z0 hok2 (by simp [z0]; omega)
    have hN := eN_le _ z0 ok_z0 hok2 (by simp [z0]; omega)
    have hNl : (ss.take k).length = k := by simp; omega
    rw [hNl] at hN
    by_cases hkl : k < len
    · obtain ⟨b, off, rfl, hb, hcl⟩ := hcells.out (by omega)
      have j1 : (k : Int) < (len : Int) := by omega
      obtain ⟨c0, c1⟩ := hcl k hkl
      replace c0 := (B.out.cell (p := ⟨b, off + k * 2, none⟩) hb).trans c0
      replace c1 := (B.out.cell (p := ⟨b, off + k * 2 + 1, none⟩) hb).trans c1
      clear hcl
      by_cases hks : k < ss.length
      · rw [hpre k hks] at c0 c1
        have hs := ok_at hok hks
        have e1 : fin z0 (ss.take (k + 1)) = nxt (fin z0 (ss.take k)) (ss.getD k (0, 0)) := by rw [take_snocS hks, fin_snoc]
        have e2 : eX z0 (ss.take (k + 1)) = eX z0 (ss.take k) * 2 ^ kN (fin z0 (ss.take k)) (ss.getD k (0, 0)) + kX (fin z0 (ss.take k)) (ss.getD k (0, 0)) := by rw [take_snocS hks, eX_snoc]
        have e3 : eN z0 (ss.take (k + 1)) = eN z0 (ss.take k) + kN (fin z0 (ss.take k)) (ss.getD k (0, 0)) := by rw [take_snocS hks, eN_snoc]
        have A1 := add_ok (D.out.below ((Below.refl _ wr).alloc (Nat.le_refl _) (.cells #[.int .i64 ((ss.getD k (0, 0)).1 : Int), .int .u64 ((ss.getD k (0, 0)).2 : Int)] 33))) (hTr.out.below ((Below.refl _ wr).alloc (Nat.le_refl _) _)) (by omega) hzk hs (by omega) (by omega)
        rw [← e1, ← e2, ← e3] at A1
        unfold up at c0 c1
        generalize ss.getD k (0, 0) = s at *
        obtain ⟨t, x⟩ := s
        simp only at c0 c1 A1
        replace A1 := hide A1
        have hb2 : Hid (Below w.heap.size w (wr.alloc (.cells #[.int .i64 (t : Int), .int .u64 (x : Int)] 33))) := B.out.alloc B.out.size _
        clear e1 e2 e3 hs hzk hN hNl hfk hok2 hpre hend D B hTr
        go_wp2_with fail
        refine A1.out.mono ?_
        rintro e w3 ⟨rfl, v3, D3, d3⟩
        have B3 := hide (hb2.out.trans d3.bel)
        replace D3 := hide D3
        clear A1 d3 hb2
        go_wp2_with fail
        go_roundw
        case rel => exact ⟨k + 1, v3, by omega, by go_num, D3, B3⟩
        case measure => simp [intOf]; omega
      · obtain rfl : k = ss.length := by omega
        have hno := hend (by omega)
        have A1 := hide (fun (t : Int) (x : Nat) hno => add_no (t := t) (x := x) (D.out.below ((Below.refl _ wr).alloc (Nat.le_refl _) (.cells #[.int .i64 t, .int .u64 (x : Int)] 33))) (hTr.out.below ((Below.refl _ wr).alloc (Nat.le_refl _) _)) (by omega) hno (by omega) (by omega))
        rw [← List.take_length (l := ss)] at hno
        simp only [List.take_length] at A1 hno
        generalize L.getD ss.length noSmp = s at *
        obtain ⟨t, x⟩ := s
        simp only at c0 c1 hno
        have A2 := hide (A1.out t x hno)
        have hb2 : Hid (Below w.heap.size w (wr.alloc (.cells #[.int .i64 t, .int .u64 (x : Int)] 33))) := B.out.alloc B.out.size _
        clear A1 hno hzk hN hNl hfk hok2 hpre hend D B hTr
        go_wp2_with fail
        refine A2.out.mono ?_
        rintro e w3 ⟨rfl, v3, D3, d3⟩
        have B3 := hide (hb2.out.trans d3.bel)
        clear A2 d3 hb2 D3
        go_wp2_with fail
        go_ret2
        exact ⟨.inr (.inr ⟨by omega, rfl⟩), B3.out⟩
    · obtain rfl : k = len := by omega
      have hsl : ss.length = k := by omega
      have hst : ss.take k = ss := List.take_of_length_le (by omega)
      rw [hst] at D hfk hN
      have j1 : ¬ ((k : Int) < (k : Int)) := by omega
      by_cases h0 : k = 0
      · have BN := hide (bbytes_none D.out (by omega))
        clear hfk hN hzk hok2 hNl
        go_wp2_with fail
        refine BN.out.mono ?_
        rintro e w3 ⟨rfl, rfl⟩
        go_wp2_with fail
        go_ret2
        exact ⟨.inr (.inl ⟨h0, rfl⟩), B.out⟩
      · obtain ⟨BB, hBB⟩ := D.out.wr.holds
        have BN := hide (bbytes_any D.out hTr.out (by omega) (by omega) (by omega) hBB)
        have hI : Hid (IsC ss (chunkB (fin z0 ss).n BB)) := ⟨BB, hBB, by rw [hfk, hsl]⟩
        clear hfk hN hzk hok2 hNl hBB
        go_wp2_with fail
        refine BN.out.mono ?_
        rintro e w3 ⟨a3, l3, k3, rfl, H3, b3⟩
        have B3 := hide (B.out.trans (b3.mono B.out.size))
        replace H3 := hide H3
        clear BN b3
        go_wp2_with fail
        go_ret2
        exact ⟨.inl ⟨hsl, by omega, _, a3, l3, k3, hI.out, rfl, H3.out⟩, B3.out⟩
end Go.Proofs.YtmjjedbdedemcaaGreatDoor
