/-
  A disk behind acts ('played').
-/
import Derived.Test.YtgbijkdfhkkieaaTE
namespace Go.Proofs.Ytgbijkdfhkkieaa
open Go.RowKit Go.Maps Go.Lib
set_option linter.unusedVariables false
set_option linter.unusedSimpArgs false
theorem Has.bound {w : World} {a : Option Addr} {n c k : Nat} {l : List Int} (h : Has w a n c l) (hp : 0 < n) (hk : (Value.slice a n c).ownBlock = some k) : k < w.heap.size := by
  obtain ⟨b, off, e1, e2, _⟩ := h.cells hp
  rw [e1] at hk
  have e : b = k := by simpa [Value.ownBlock] using hk
  omega
theorem Hi.bound {w : World} {a : Option Addr} {n c k : Nat} {l : List Int} (h : Hi w a n c l) (hp : 0 < n) (hk : (Value.slice a n c).ownBlock = some k) : k < w.heap.size := by
  obtain ⟨b, off, e1, e2, _⟩ := h.cells hp
  rw [e1] at hk
  have e : b = k := by simpa [Value.ownBlock] using hk
  omega
/-- An act that lies ahead of both disks. -/
theorem IsAc.into {w wr : World} {c : Ac} {T R : Nat → Prop} (h : IsAc w c) (hb : Below w.heap.size w wr) (hT : ∀ x, T x → w.heap.size ≤ x) (hR : ∀ x, R x → w.heap.size ≤ x) : AcIn wr T R c.aB c.lB c.cB c.aP c.lP c.cP := by
  have h' := h.kept hb
  obtain ⟨l, hl⟩ := h.b
  obtain ⟨p, hp⟩ := h.p
  refine ⟨h'.b, h'.p, fun h0 k hk => ?_, fun h0 k hk => ?_⟩
  · have := hl.bound h0 hk
    exact ⟨fun e => by have := hT k e; omega, fun e => by have := hR k e; omega⟩
  · have := hp.bound h0 hk
    exact ⟨fun e => by have := hT k e; omega, fun e => by have := hR k e; omega⟩
/-- Between two acts. -/
def Py (w wr : World) (d y k : Nat) : Prop := ∃ m r T R, St wr d y m r k T R ∧ Below w.heap.size w wr ∧ (∀ x, T x → w.heap.size ≤ x) ∧ ∀ x, R x → w.heap.size ≤ x
/-- A disk that is new. -/
def Pd (w : World) (k : Nat) (d : Nat) (w' : World) : Prop := ∃ m T, Disk w' d m T ∧ Ok m k ∧ Below w.heap.size w w' ∧ ∀ x, T x → w.heap.size ≤ x
theorem Fin.py {w wr w' : World} {d y k : Nat} {m : M} {T R : Nat → Prop} {s t : ByteArray} (h : Fin wr d y T R k s t m w') (hb : Below w.heap.size w wr) (hT : ∀ x, T x → w.heap.size ≤ x) (hR : ∀ x, R x → w.heap.size ≤ x) : Py w w' d y (k + 1) := by
  obtain ⟨m', r', T', R', h1, h2, h3, h4, h5⟩ := h
  refine ⟨m', r', T', R', h1, ?_, fun x hx => ?_, fun x hx => ?_⟩
  · refine hb.trans ⟨h3.os, h3.tape, h3.output, h3.size, fun i hi => h3.block i (Nat.lt_of_lt_of_le hi hb.size) (fun e => ?_)⟩
    rcases e with e | e
    · have := hT i e; omega
    · have := hR i e; omega
  · rcases h4 x hx with e | e
    · exact hT x e
    · exact Nat.le_trans hb.size e
  · rcases h5 x hx with e | e
    · exact hR x e
    · exact Nat.le_trans hb.size e
theorem Pd.up {w wr w' : World} {d k : Nat} {m m' : M} {T T' : Nat → Prop} (hD : Disk w' d m' T') (hU : Up wr T w' T') (hO : Ok m' k) (hb : Below w.heap.size w wr) (hT : ∀ x, T x → w.heap.size ≤ x) : Pd w k d w' :=
  ⟨m', T', hD, hO, hb.trans ⟨hU.but.os, hU.but.tape, hU.but.output, hU.but.size, fun i hi => hU.but.block i (Nat.lt_of_lt_of_le hi hb.size) (fun e => by have := hT i e; omega)⟩, fun x hx => by
    rcases hU.own x hx with e | e
    · exact hT x e
    · exact Nat.le_trans hb.size e⟩
set_option maxHeartbeats 4000000 in
set_option maxRecDepth 100000 in
theorem played_any {w : World} {a : Option Addr} {len cap : Nat} {A : Nat → Ac} (h : HasA w a len cap A) : Calls Try.prog 8 #[.slice a len cap] w fun e w' => ∃ d, e = .returned (ptr d) ∧ Pd w 41 d w' := by
  have hcells := hide h.cells
  clear h
  go_enter Try.func8, Try.ntmps8
  go_wp2_with fail
  refine (make_any w 200 (by omega)).mono ?_
  rintro e w1 ⟨d, T1, rfl, D1, B1, hT1⟩
  replace D1 := hide D1
  replace B1 := hide B1
  replace hT1 := hide hT1
  go_wp2_with fail
  refine (rmake_any w1 200 (by omega) (by omega)).mono ?_
  rintro e w2 ⟨y, rfl, F2, B2, hy⟩
  have P0 : Hid (Py w w2 d y 0) := by
    refine ⟨m0 200, r0 200, T1, fun k => k = y, ⟨D1.out.below B2, F2, Ok.m0 200, ⟨Nat.le_refl _, Nat.le_refl _, Nat.le_refl _, by show (0 : Int) ≤ 0 ∧ (0 : Int) ≤ ((0 : Nat) : Int); omega, by show (-1 : Int) ≤ _; omega⟩, fun x hx e => ?_⟩, B1.out.trans (B2.mono B1.out.size), hT1.out, fun x e => ?_⟩
    · have := D1.out.lt x hx
      omega
    · have := B1.out.size
      omega
  clear D1 B1 hT1 F2 B2 hy
  go_wp2_with fail
  go_loopw [7] (fun i wr => ∃ k : Nat, k ≤ len ∧ k ≤ 40 ∧ i = .int .i64 (k : Int) ∧ Hid (Py w wr d y k)) (fun i _ => 40 - (intOf i).toNat)
  case atStart => exact ⟨0, Nat.zero_le _, Nat.zero_le _, rfl, P0⟩
  case round =>
    clear P0
    obtain ⟨k, hk, hk4, rfl, hP⟩ := hrel
    by_cases hlt : k < len ∧ k < 40
    · have i1 : (k : Int) < (len : Int) := by omega
      have i2 : (k : Int) < 40 := by omega
      obtain ⟨b, off, rfl, hbl, hc⟩ := hcells.out (by omega)
      obtain ⟨⟨q0, q1, q2, q3, q4, q5⟩, hI⟩ := hc k hlt.1
      obtain ⟨m, r, T, R, hS, hB, hT, hR⟩ := hP.out
      have c0 := (hB.cell (p := ⟨b, off + k * 6, none⟩) hbl).trans q0
      have c1 := (hB.cell (p := ⟨b, off + k * 6 + 1, none⟩) hbl).trans q1
      have c2 := (hB.cell (p := ⟨b, off + k * 6 + 2, none⟩) hbl).trans q2
      have c3 := (hB.cell (p := ⟨b, off + k * 6 + 3, none⟩) hbl).trans q3
      have c4 := (hB.cell (p := ⟨b, off + k * 6 + 4, none⟩) hbl).trans q4
      have c5 := (hB.cell (p := ⟨b, off + k * 6 + 5, none⟩) hbl).trans q5
      have DO := hide (do_any hS (by omega) (A k).dO (A k).n hI.d hI.n (A k).sN (A k).sT (hI.into hB hT hR))
      generalize A k = c at *
      obtain ⟨dO, n, sN, sT, aB, lB, cB, aP, lP, cP⟩ := c
      simp only at c0 c1 c2 c3 c4 c5 DO
      replace hS := hide hS
      replace hB := hide hB
      replace hT := hide hT
      replace hR := hide hR
      clear hcells hc q0 q1 q2 q3 q4 q5 hI hP hlt hbl
      go_wp2_with fail
      refine DO.out.mono ?_
      rintro e w3 ⟨bb, rfl, hF⟩
      have hN := hide (hF.py hB.out hT.out hR.out)
      clear hF DO c0 c1 c2 c3 c4 c5
      go_wp2_with fail
      go_roundw
      case rel => exact ⟨k + 1, by omega, by omega, by go_num, hN⟩
      case measure => simp [intOf]; omega
    · obtain ⟨m, r, T, R, hS, hB, hT, hR⟩ := hP.out
      have FU := hide (fuse_disk hS.dk (-1))
      have ok := hide (Ok.next (s := ByteArray.empty) (t := ByteArray.empty) hS.dk hS.ok (.fus (-1) (by omega)))
      replace hB := hide hB
      replace hT := hide hT
      clear hS hR hP hcells
      by_cases i1 : (k : Int) < (len : Int)
      · have i2 : ¬ ((k : Int) < 40) := by omega
        go_wp2_with fail
        refine FU.out.mono ?_
        rintro e w3 ⟨q3, m3, T3, rfl, D3, U3, hq3, hm3⟩
        have hN : Hid (Pd w 41 d w3) := Pd.up (m := m) D3 U3 (by rw [hm3]; exact ok.out.mono (by omega)) hB.out hT.out
        clear D3 U3 hm3 FU
        go_wp2_with fail
        go_ret
        exact ⟨d, rfl, hN.out⟩
      · go_wp2_with fail
        refine FU.out.mono ?_
        rintro e w3 ⟨q3, m3, T3, rfl, D3, U3, hq3, hm3⟩
        have hN : Hid (Pd w 41 d w3) := Pd.up (m := m) D3 U3 (by rw [hm3]; exact ok.out.mono (by omega)) hB.out hT.out
        clear D3 U3 hm3 FU
        go_wp2_with fail
        go_ret
        exact ⟨d, rfl, hN.out⟩
end Go.Proofs.Ytgbijkdfhkkieaa
