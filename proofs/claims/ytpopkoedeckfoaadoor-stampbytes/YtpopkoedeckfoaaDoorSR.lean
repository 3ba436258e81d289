/-
  The reference's Get.
-/
import Derived.Test.YtpopkoedeckfoaaDoorSQ
import Derived.Test.YtpopkoedeckfoaaDoorSK
namespace Go.Proofs.YtpopkoedeckfoaaDoor
open Go.RowKit
set_option linter.unusedVariables false
set_option linter.unusedSimpArgs false

theorem Has.low {w w' : World} {a : Option Addr} {len cap base : Nat} {l : List Int} (h : Has w a len cap l) (hb : Below base w w') (hap : 0 < len → ∀ b off, a = some ⟨b, off, none⟩ → b < base) : Has w' a len cap l := by
  refine ⟨h.hlen, h.le, h.capb, h.nil, fun hp => ?_, h.bytes⟩
  obtain ⟨b, off, e1, e2, e3⟩ := h.cells hp
  exact ⟨b, off, e1, Nat.lt_of_lt_of_le e2 hb.size, fun i hi => (hb.cell (p := ⟨b, off + i, none⟩) (hap hp b off e1)).trans (e3 i hi)⟩

structure RG (w0 w : World) (base p : Nat) (a : Option Addr) (len cap : Nat) (l : List Int) (n g : Nat) (x y z : Value) : Prop where
  rf : Ref w base p a len cap n
  H : Has w a len cap l
  s : Box3 w g x y z
  r : Box3 w (g + 1) (.int .i64 0) (.int .i64 0) (.int .i64 0)
  but : But (fun k => k = p) w0 w
  gp : g ≠ p
  gq : g + 1 ≠ p
  hap : 0 < len → ∀ b off, a = some ⟨b, off, none⟩ → b < base
  few : len ≤ 300
  n8 : n ≤ 8 * len
section
variable {w0 w w' : World} {base p len cap n n' g : Nat} {a : Option Addr} {x y z : Value} {l : List Int}
theorem RG.get (h : RG w0 w base p a len cap l n g x y z) (hb : But (fun k => k = p) w w') (hr : Ref w' base p a len cap n') (h8 : n' ≤ 8 * len) : RG w0 w' base p a len cap l n' g x y z :=
  ⟨hr, h.H.low (h.rf.bel hb) h.hap, h.s.but hb h.gp, h.r.but hb h.gq, h.but.one_trans hb, h.gp, h.gq, h.hap, h.few, h8⟩
theorem RG.below (h : RG w0 w base p a len cap l n g x y z) (hb : Below w.heap.size w w') : RG w0 w' base p a len cap l n g x y z :=
  ⟨h.rf.below hb (Nat.le_refl _), h.H.kept hb (Nat.le_refl _), h.s.kept hb h.s.lt, h.r.kept hb h.r.lt, h.but.one_trans (but_below hb), h.gp, h.gq, h.hap, h.few, h.n8⟩
theorem RG.drewN (h : RG w0 w base p a len cap l n g x y z) (k : Nat) : RG w0 (w.drewN k) base p a len cap l n g x y z :=
  ⟨h.rf.drewN k, ⟨h.H.hlen, h.H.le, h.H.capb, h.H.nil, h.H.cells, h.H.bytes⟩, ⟨h.s.c0, h.s.c1, h.s.c2, h.s.f0, h.s.f1, h.s.f2, h.s.lt⟩, ⟨h.r.c0, h.r.c1, h.r.c2, h.r.f0, h.r.f1, h.r.f2, h.r.lt⟩, h.but.drewN k, h.gp, h.gq, h.hap, h.few, h.n8⟩
theorem RG.drew (h : RG w0 w base p a len cap l n g x y z) : RG w0 w.drew base p a len cap l n g x y z :=
  ⟨⟨h.rf.heap, h.rf.ge⟩, ⟨h.H.hlen, h.H.le, h.H.capb, h.H.nil, h.H.cells, h.H.bytes⟩, h.s.drawn, h.r.drawn, h.but.drew, h.gp, h.gq, h.hap, h.few, h.n8⟩
theorem RG.start (h : Ref w base p a len cap n) (H : Has w a len cap l) (hap : 0 < len → ∀ b off, a = some ⟨b, off, none⟩ → b < base) (few : len ≤ 300) (h8 : n ≤ 8 * len) (x y z : Value) : RG w ((w.alloc (.cells #[x, y, z] 36)).alloc (.cells #[.int .i64 0, .int .i64 0, .int .i64 0] 36)) base p a len cap l n w.heap.size x y z := by
  have B0 : Below w.heap.size w (w.alloc (.cells #[x, y, z] 36)) := (Below.refl _ w).alloc (Nat.le_refl _) _
  have B1 : Below w.heap.size w ((w.alloc (.cells #[x, y, z] 36)).alloc (.cells #[.int .i64 0, .int .i64 0, .int .i64 0] 36)) := B0.alloc B0.size _
  have := h.lt
  exact ⟨h.below B1 (Nat.le_refl _), H.kept B1 (Nat.le_refl _), (Box3.new w _ _ _ 36).kept ((Below.refl (w.heap.size + 1) _).alloc (by simp) _) (by omega), Box3.new_at (by simp) _ _ _ 36, but_below B1, by omega, by omega, hap, few, h8⟩
theorem RG.done (h : RG w0 w base p a len cap l n g x y z) (hg : w0.heap.size ≤ g) (x' y' z' : Value) :
    Ref (((w.setCell ⟨g + 1, 0, none⟩ x').setCell ⟨g + 1, 1, none⟩ y').setCell ⟨g + 1, 2, none⟩ z') base p a len cap n ∧ But (fun k => k = p) w0 (((w.setCell ⟨g + 1, 0, none⟩ x').setCell ⟨g + 1, 1, none⟩ y').setCell ⟨g + 1, 2, none⟩ z') :=
  ⟨h.rf.kept (but3 w (g + 1) x' y' z') (fun e => h.gq e.symm), h.but.trans (but3 w (g + 1) x' y' z') (fun i hi e => by omega)⟩
end
theorem getRf {w : World} {base p len cap n0 : Nat} {a : Option Addr} {l : List Int} (h : Ref w base p a len cap n0) (H : Has w a len cap l) (hap : 0 < len → ∀ b off, a = some ⟨b, off, none⟩ → b < base) (hlen : len ≤ 300) (n : Nat) {ni xi : Int} {x : Nat} (e1 : ni = (n : Int)) (hx : rd (num l) len n0 n = x) (e2 : xi = (x : Int)) (hn : n ≤ 64) (hroom : n0 + n ≤ 8 * len) :
    Calls Tryd.prog 22 #[.pointer (some ⟨p, 0, none⟩), .int .i64 ni] w fun e w' => e = .returned (.tuple #[.int .u64 xi, .int .i64 0]) ∧ Ref w' base p a len cap (n0 + n) ∧ But (fun k => k = p) w w' := by
  subst e1 e2 hx
  exact rget_ok h H hap hlen n hn hroom
theorem getRf_bits {w : World} {base p len cap n0 : Nat} {a : Option Addr} (h : Ref w base p a len cap n0) (hlen : len ≤ 300) (n : Nat) {ni : Int} (e1 : ni = (n : Int)) (hn : n ≤ 64) (h0 : n0 ≤ 8 * len) (hroom : 8 * len < n0 + n) :
    Calls Tryd.prog 22 #[.pointer (some ⟨p, 0, none⟩), .int .i64 ni] w fun e w' => e = .returned (.tuple #[.int .u64 0, .int .i64 50]) ∧ ∃ k, w' = w.drewN k := by
  subst e1
  exact rget_bits h hlen n hn h0 hroom

theorem Box3.beside2 {w : World} {g k : Nat} {x y z : Value} (h : Box3 w k x y z) (hn : k ≠ g) (a b c : Value) :
    (((w.setCell ⟨g, 0, none⟩ a).setCell ⟨g, 1, none⟩ b).setCell ⟨g, 2, none⟩ c).cell? ⟨k, 0, none⟩ = some x ∧ (((w.setCell ⟨g, 0, none⟩ a).setCell ⟨g, 1, none⟩ b).setCell ⟨g, 2, none⟩ c).cell? ⟨k, 1, none⟩ = some y := by
  have := h.same ((but3 w g a b c).block k h.lt hn) (but3 w g a b c).size
  exact ⟨this.c0, this.c1⟩
/-- What the reference's Get does. -/
def RGet (n L D : Nat) (w : World) (base p : Nat) (a : Option Addr) (len cap : Nat) (l : List Int) (m : Nat) (e : Ending) (w' : World) : Prop :=
  ∃ er t k, gtm n L D (num l) len m = (er, t, k) ∧ (er = 0 ∨ er = 50 ∨ er = 60) ∧ (er = 0 → e = .returned (.tuple #[.agg #[.int .i64 ((n + 1 : Nat) : Int), .int .i64 (t : Int), .int .i64 ((dl n L t : Nat) : Int)], .int .i64 (t : Int), .int .i64 0]) ∧ Ref w' base p a len cap (m + k)) ∧ (er ≠ 0 → e = .returned (.tuple #[.agg #[.int .i64 0, .int .i64 0, .int .i64 0], .int .i64 0, .int .i64 (er : Int)]) ∧ ∃ P3, Ref w' base p a len cap P3) ∧ But (fun k => k = p) w w'

set_option maxRecDepth 100000 in
set_option maxHeartbeats 4000000 in
theorem rgetS0 {w : World} {base p m L D len cap : Nat} {a : Option Addr} {l : List Int} (h : Ref w base p a len cap m) (H : Has w a len cap l) (hap : 0 < len → ∀ b off, a = some ⟨b, off, none⟩ → b < base) (few : len ≤ 300) (h8 : m ≤ 8 * len) (hs : OkS 0 L D) :
    Calls Tryd.prog 24 #[.pointer (some ⟨p, 0, none⟩), .agg #[.int .i64 0, .int .i64 (L : Int), .int .i64 (D : Int)]] w (RGet 0 L D w base p a len cap l m) := by
  have E0 := hide (RG.start h H hap few h8 (.int .i64 0) (.int .i64 (L : Int)) (.int .i64 (D : Int)))
  have hsi := hide (okSI_of hs)
  have hz36 := zero36
  have R := hide (fun w => right_any 0 (L : Int) (D : Int) w)
  rw [show okSI 0 (L : Int) (D : Int) = true from hsi.out] at R
  clear h H hap h8 hs
  have s0 := E0.out.s.c0
  have s1 := E0.out.s.c1
  have s2 := E0.out.s.c2
  unfold RGet
  replace few := hide few
  go_enter Tryd.func24, Tryd.ntmps24
  go_wp2_with fail
  refine (R.out _).mono ?_
  rintro e w2 ⟨rfl, b2⟩
  have E2 := hide (E0.out.below b2)
  clear s0 s1 s2 E0 R b2
  have s0 := E2.out.s.c0
  have s1 := E2.out.s.c1
  have s2 := E2.out.s.c2
  by_cases hroom : m + 46 ≤ 8 * len
  · obtain ⟨x, hx⟩ : ∃ x, rd (num l) len m 46 = x := ⟨_, rfl⟩
    have P := hide (getRf E2.out.rf E2.out.H E2.out.hap E2.out.few 46 (ni := 46) (xi := (x : Int)) rfl hx rfl (by decide) hroom)
    have hg0 : gtm 0 L D (num l) len m = if 35184372088832 < x then (60, 0, 0) else (0, x, 46) := by
      unfold gtm; rw [if_pos rfl, if_neg (by omega), hx]
    have hxl : x < 2 ^ 46 := by rw [← hx]; exact rd_lt _ _ _ _
    replace hx := hide hx
    replace hroom := hide hroom
    go_wp2_with fail
    refine P.out.mono ?_
    rintro e w3 ⟨rfl, R3, b3⟩
    have E3 := hide (E2.out.get b3 R3 hroom.out)
    clear P E2 R3 b3 s0 s1 s2
    obtain ⟨xi, hxi⟩ : ∃ xi : Int, (x : Int) = xi := ⟨_, rfl⟩
    by_cases hbig : 35184372088832 < x
    · have hgg : Hid (gtm 0 L D (num l) len m = (60, 0, 0)) := by show _ = _; rw [hg0, if_pos hbig]
      rw [hxi]
      have j1 : 35184372088832 < xi := by omega
      clear hg0 hxl hbig
      replace hxi := hide hxi
      have FIN := hide (E3.out.done (Nat.le_refl _) (.int .i64 0) (.int .i64 0) (.int .i64 0))
      have X2 := hide (E3.out.r.set (.int .i64 0) (.int .i64 0) (.int .i64 0))
      obtain ⟨r0, r1, r2, r3, r4, r5, r6⟩ := E3.out.r
      have r7 := E3.out.r.o1
      have r8 := E3.out.r.o2
      have o0 := X2.out.c0
      have o1 := X2.out.c1
      have o2 := X2.out.c2
      go_wp2_with fail
      refine bodyPost_ret (v := .tuple #[.agg #[.int .i64 0, .int .i64 0, .int .i64 0], .int .i64 0, .int .i64 60]) (by simp [results, Tryd.f24, go_sem, o0, o1, o2]) rfl ?_
      exact ⟨60, 0, 0, hgg.out, .inr (.inr rfl), (fun h => by cases h), (fun _ => ⟨rfl, _, FIN.out.1⟩), FIN.out.2⟩
    · have hgg : Hid (gtm 0 L D (num l) len m = (0, x, 46)) := by show _ = _; rw [hg0, if_neg hbig]
      rw [hxi]
      have j1 : ¬ 35184372088832 < xi := by omega
      have j2 : 0 ≤ xi := by omega
      have j3 : xi ≤ 35184372088832 := by omega
      clear hg0 hxl hbig
      replace hxi := hide hxi
      have FIN := hide (E3.out.done (Nat.le_refl _) (.int .i64 1) (.int .i64 xi) (.int .i64 0))
      have X2 := hide (E3.out.r.set (.int .i64 1) (.int .i64 xi) (.int .i64 0))
      obtain ⟨r0, r1, r2, r3, r4, r5, r6⟩ := E3.out.r
      have r7 := E3.out.r.o1
      have r8 := E3.out.r.o2
      have o0 := X2.out.c0
      have o1 := X2.out.c1
      have o2 := X2.out.c2
      go_wp2_with fail
      refine bodyPost_ret (v := .tuple #[.agg #[.int .i64 1, .int .i64 xi, .int .i64 0], .int .i64 xi, .int .i64 0]) (by simp [results, Tryd.f24, go_sem, o0, o1, o2]) rfl ?_
      exact ⟨0, x, 46, hgg.out, .inl rfl, (fun _ => ⟨by rw [hxi.out]; rfl, FIN.out.1⟩), (fun h => absurd rfl h), FIN.out.2⟩
  · have hgg : Hid (gtm 0 L D (num l) len m = (50, 0, 0)) := by show _ = _; unfold gtm; rw [if_pos rfl, if_pos (by omega)]
    have P := hide (getRf_bits E2.out.rf E2.out.few 46 (ni := 46) rfl (by decide) E2.out.n8 (by omega))
    replace hroom := hide hroom
    go_wp2_with fail
    refine P.out.mono ?_
    rintro e w3 ⟨rfl, j, rfl⟩
    have E3 := hide (E2.out.drewN j)
    clear P E2 s0 s1 s2
    have FIN := hide (E3.out.done (Nat.le_refl _) (.int .i64 0) (.int .i64 0) (.int .i64 0))
    have X2 := hide (E3.out.r.set (.int .i64 0) (.int .i64 0) (.int .i64 0))
    obtain ⟨r0, r1, r2, r3, r4, r5, r6⟩ := E3.out.r
    have r7 := E3.out.r.o1
    have r8 := E3.out.r.o2
    have o0 := X2.out.c0
    have o1 := X2.out.c1
    have o2 := X2.out.c2
    go_wp2_with fail
    refine bodyPost_ret (v := .tuple #[.agg #[.int .i64 0, .int .i64 0, .int .i64 0], .int .i64 0, .int .i64 50]) (by simp [results, Tryd.f24, go_sem, o0, o1, o2]) rfl ?_
    exact ⟨50, 0, 0, hgg.out, .inr (.inl rfl), (fun h => by cases h), (fun _ => ⟨rfl, _, FIN.out.1⟩), FIN.out.2⟩

theorem lit5 (w : World) {c : Nat} (hc : c ≤ 4) : (w.alloc (.cells #[.int .i64 0, .int .i64 7, .int .i64 12, .int .i64 20, .int .i64 48] 3)).cell? ⟨w.heap.size, c, none⟩ = some (.int .i64 ((cSize c : Nat) : Int)) := by
  rcases five hc with rfl | rfl | rfl | rfl | rfl <;> (unfold World.cell?; rw [heap_alloc_new]; rfl)

set_option maxRecDepth 100000 in
set_option maxHeartbeats 8000000 in
theorem rgetS1 {w : World} {base p m n L D len cap : Nat} {a : Option Addr} {l : List Int} (h : Ref w base p a len cap m) (H : Has w a len cap l) (hap : 0 < len → ∀ b off, a = some ⟨b, off, none⟩ → b < base) (few : len ≤ 300) (h8 : m ≤ 8 * len) (hs : OkS n L D) (hn : n ≠ 0) :
    Calls Tryd.prog 24 #[.pointer (some ⟨p, 0, none⟩), .agg #[.int .i64 (n : Int), .int .i64 (L : Int), .int .i64 (D : Int)]] w (RGet n L D w base p a len cap l m) := by
  have E0 := hide (RG.start h H hap few h8 (.int .i64 (n : Int)) (.int .i64 (L : Int)) (.int .i64 (D : Int)))
  have hsi := hide (okSI_of hs)
  have hz36 := zero36
  have R := hide (fun w => right_any (n : Int) (L : Int) (D : Int) w)
  rw [hsi.out] at R
  have hsl := hs.l
  have hsd := hs.d
  have hsn := hs.n
  have i0 : ¬ (n : Int) = 0 := by omega
  have i1 : (L : Int) ≤ 35184372088832 := by omega
  have i2 : (D : Int) ≤ 35184372088832 := by omega
  have i3 : (n : Int) ≤ 4096 := by omega
  have i5 : (0 : Int) < (n : Int) := by omega
  clear h H hap h8 hs hsl hsd hsn
  have s0 := E0.out.s.c0
  have s1 := E0.out.s.c1
  have s2 := E0.out.s.c2
  unfold RGet
  replace few := hide few
  replace hn := hide hn
  go_enter Tryd.func24, Tryd.ntmps24
  go_wp2_with fail
  refine (R.out _).mono ?_
  rintro e w2 ⟨rfl, b2⟩
  have E2 := hide (E0.out.below b2)
  clear s0 s1 s2 E0 R b2
  have s0 := E2.out.s.c0
  have s1 := E2.out.s.c1
  have s2 := E2.out.s.c2
  go_wp2_with fail
  have hn0 : ((n : Int) == 0) = false := by simp; omega
  simp only [hn0]
  go_loopw [9] (fun ov wr => ∃ i : Nat, i ≤ 4 ∧ ov = .int .i64 (i : Int) ∧ Hid (rcs (num l) len m 0 = rcs (num l) len m i) ∧ Hid (RG w wr base p a len cap l (m + i) w.heap.size (.int .i64 (n : Int)) (.int .i64 (L : Int)) (.int .i64 (D : Int)))) (fun ov _ => 4 - (intOf ov).toNat)
  case atStart => exact ⟨0, by omega, rfl, rfl, E2⟩
  case round =>
    clear s0 s1 s2 E2
    obtain ⟨i, hi, rfl, hc, E⟩ := hrel
    by_cases hlt : i < 4
    · have j1 : (i : Int) < 4 := by omega
      by_cases hroom1 : m + i + 1 ≤ 8 * len
      · have hb2 := bit_lt (num l) len (m + i)
        have hcases : rd (num l) len (m + i) 1 = 0 ∨ rd (num l) len (m + i) 1 = 1 := by omega
        rcases hcases with hx1 | hx1
        · have hrc : Hid (rcs (num l) len m 0 = some i) := hc.out.trans (rcs_zero hlt (by omega) hx1)
          have P := hide (getRf E.out.rf E.out.H E.out.hap E.out.few 1 (ni := 1) (xi := 0) rfl hx1 rfl (by decide) hroom1)
          clear hx1 hb2
          go_wp2_with fail
          refine P.out.mono ?_
          rintro e wz ⟨rfl, R4, b4⟩
          have E4 : Hid (RG w wz base p a len cap l (m + cAhead i) w.heap.size (.int .i64 (n : Int)) (.int .i64 (L : Int)) (.int .i64 (D : Int))) := by
            have := E.out.get b4 R4 hroom1
            rw [(ahead_of hi).1 hlt, ← Nat.add_assoc]
            exact this
          clear P E R4 b4 hc
          have hc4 := hi
          replace hroom1 := hide hroom1
          have LC : Hid ((wz.alloc (.cells #[.int .i64 0, .int .i64 7, .int .i64 12, .int .i64 20, .int .i64 48] 3)).cell? ⟨wz.heap.size, i, none⟩ = some (.int .i64 ((cSize i : Nat) : Int))) := lit5 wz hc4
          have hsz48 := cSize_le i
          obtain ⟨sz, hsz⟩ : ∃ sz, cSize i = sz := ⟨_, rfl⟩
          obtain ⟨ah, hah⟩ : ∃ ah, cAhead i = ah := ⟨_, rfl⟩
          rw [hsz] at LC hsz48
          have lc := LC.out
          have k1 : (i : Int) < 5 := by omega
          have k2 : (0 : Int) ≤ (i : Int) := by omega
          have k3 : (sz : Int) ≤ 48 := by omega
          replace hsz := hide hsz
          replace hah := hide hah
          rw [hah.out] at E4
          have E5 := hide (E4.out.below ((Below.refl wz.heap.size wz).alloc (Nat.le_refl _) (.cells #[.int .i64 0, .int .i64 7, .int .i64 12, .int .i64 20, .int .i64 48] 3)))
          clear E4
          by_cases hroom : m + ah + sz ≤ 8 * len
          · obtain ⟨x, hx⟩ : ∃ x, rd (num l) len (m + ah) sz = x := ⟨_, rfl⟩
            have hxl : x < 281474976710656 := Nat.lt_of_lt_of_le (by rw [← hx]; exact rd_lt _ _ _ _) (by have := Nat.pow_le_pow_right (n := 2) (by decide) hsz48; omega : 2 ^ sz ≤ 281474976710656)
            have P := hide (getRf E5.out.rf E5.out.H E5.out.hap E5.out.few sz (ni := (sz : Int)) (xi := (x : Int)) rfl hx rfl (by omega) hroom)
            replace hx := hide hx
            replace hroom := hide hroom
            have C := hide (class_any x)
            go_wp2_with fail
            refine P.out.mono ?_
            rintro e w6 ⟨rfl, R6, b6⟩
            have E6 := hide (E5.out.get b6 R6 hroom.out)
            clear P E5 R6 b6 lc LC
            have hgg0 : Hid (gtm n L D (num l) len m = if cls x ≠ i then (60, 0, 0) else if (L : Int) < (L : Int) + (D : Int) + zag x ∧ (L : Int) + (D : Int) + zag x ≤ 35184372088832 then (0, ((L : Int) + (D : Int) + zag x).toNat, ah + sz) else (60, 0, 0)) := by
              show _ = _
              unfold gtm
              rw [if_neg hn.out, hrc.out]
              simp only [gtc, hah.out, hsz.out]
              rw [if_neg (by have := hroom.out; omega), hx.out]
            have hclx := cls_le x
            by_cases hcc : cls x = i
            · rw [if_neg (by simp [hcc])] at hgg0
              rw [hcc] at C
              have hzb : -281474976710656 ≤ zag x ∧ zag x ≤ 281474976710656 := by unfold zag; split <;> omega
              have hzv : (x % 2 = 0 → zag x = ((x / 2 : Nat) : Int)) ∧ (x % 2 = 1 → zag x = -((x / 2 : Nat) : Int) - 1) := by
                unfold zag
                exact ⟨fun h => by rw [if_pos h], fun h => by rw [if_neg (by omega)]⟩
              obtain ⟨zx, hzx⟩ : ∃ zx, zag x = zx := ⟨_, rfl⟩
              rw [hzx] at hgg0 hzb hzv
              have z1 := hzb.1
              have z2 := hzb.2
              obtain ⟨dd, hdd⟩ : ∃ dd : Int, (D : Int) + zx = dd := ⟨_, rfl⟩
              obtain ⟨xi, hxi⟩ : ∃ xi : Int, (x : Int) = xi := ⟨_, rfl⟩
              rw [hxi] at C
              rw [hxi]
              have y1 : 0 ≤ xi := by omega
              have y2 : xi < 281474976710656 := by omega
              replace hcc := hide hcc
              replace hxi := hide hxi
              clear hclx hzb
              by_cases hpar : x % 2 = 1
              · have q1 : (xi % 2 == 1) = true := by rw [← hxi.out]; simp; omega
                have q2 : -(xi / 2) - 1 = zx := by rw [← hxi.out]; have := hzv.2 hpar; omega
                clear hzv
                replace hzx := hide hzx
                replace hpar := hide hpar
                have s0 := E6.out.s.c0
                have s1 := E6.out.s.c1
                have s2 := E6.out.s.c2
                by_cases hlo : dd < 1
                · have hgg : Hid (gtm n L D (num l) len m = (60, 0, 0)) := by show _ = _; rw [hgg0.out, if_neg (by omega)]
                  have FIN := hide (E6.out.done (Nat.le_refl _) (.int .i64 0) (.int .i64 0) (.int .i64 0))
                  have X2 := hide (E6.out.r.set (.int .i64 0) (.int .i64 0) (.int .i64 0))
                  obtain ⟨r0, r1, r2, r3, r4, r5, r6⟩ := E6.out.r
                  have r7 := E6.out.r.o1
                  have r8 := E6.out.r.o2
                  have o0 := X2.out.c0
                  have o1 := X2.out.c1
                  have o2 := X2.out.c2
                  go_wp2_with (go_at_call 43; refine (C.out _).mono ?_; rintro e wq ⟨rfl, rfl⟩)
                  refine bodyPost_ret (v := .tuple #[.agg #[.int .i64 0, .int .i64 0, .int .i64 0], .int .i64 0, .int .i64 60]) (by simp [results, Tryd.f24, go_sem, o0, o1, o2]) rfl ?_
                  exact ⟨60, 0, 0, hgg.out, .inr (.inr rfl), (fun h => by cases h), (fun _ => ⟨rfl, _, FIN.out.1⟩), FIN.out.2⟩
                · by_cases hhi : 35184372088832 - (L : Int) < dd
                  · have hgg : Hid (gtm n L D (num l) len m = (60, 0, 0)) := by show _ = _; rw [hgg0.out, if_neg (by omega)]
                    have FIN := hide (E6.out.done (Nat.le_refl _) (.int .i64 0) (.int .i64 0) (.int .i64 0))
                    have X2 := hide (E6.out.r.set (.int .i64 0) (.int .i64 0) (.int .i64 0))
                    obtain ⟨r0, r1, r2, r3, r4, r5, r6⟩ := E6.out.r
                    have r7 := E6.out.r.o1
                    have r8 := E6.out.r.o2
                    have o0 := X2.out.c0
                    have o1 := X2.out.c1
                    have o2 := X2.out.c2
                    go_wp2_with (go_at_call 43; refine (C.out _).mono ?_; rintro e wq ⟨rfl, rfl⟩)
                    refine bodyPost_ret (v := .tuple #[.agg #[.int .i64 0, .int .i64 0, .int .i64 0], .int .i64 0, .int .i64 60]) (by simp [results, Tryd.f24, go_sem, o0, o1, o2]) rfl ?_
                    exact ⟨60, 0, 0, hgg.out, .inr (.inr rfl), (fun h => by cases h), (fun _ => ⟨rfl, _, FIN.out.1⟩), FIN.out.2⟩
                  · obtain ⟨d, rfl⟩ := Int.eq_ofNat_of_zero_le (show 0 ≤ dd by omega)
                    have hgg : Hid (gtm n L D (num l) len m = (0, L + d, ah + sz)) := by
                      show _ = _
                      rw [hgg0.out, if_pos (by omega)]
                      congr 2
                      omega
                    have hdl : Hid (dl n L (L + d) = d) := by show _ = _; unfold dl; rw [if_neg hn.out]; omega
                    have hE := hide E6.out.drew
                    have q3 : (d : Int) ≤ 35184372088832 := by omega
                    obtain ⟨tt, htt⟩ : ∃ tt, L + d = tt := ⟨_, rfl⟩
                    rw [htt] at hgg hdl
                    have q4 : (L : Int) + (d : Int) = (tt : Int) := by omega
                    have q5 : (tt : Int) ≤ 35184372088832 := by omega
                    replace htt := hide htt
                    go_upto_region 30 with (go_at_call 43; refine (C.out _).mono ?_; rintro e wq ⟨rfl, rfl⟩)
                    have hw1 : IntKind.i64.wrap ((L : Int) + (d : Int)) = (tt : Int) := by rw [q4, IntKind.wrap_i64]; omega
                    have hw2 : IntKind.i64.wrap ((n : Int) + 1) = (n : Int) + 1 := by rw [IntKind.wrap_i64]; omega
                    have hw3 : IntKind.i64.wrap (tt : Int) = (tt : Int) := by rw [IntKind.wrap_i64]; omega
                    have FIN := hide (E6.out.done (Nat.le_refl _) (.int .i64 ((n : Int) + 1)) (.int .i64 (tt : Int)) (.int .i64 (d : Int)))
                    have X2 := hide (E6.out.r.set (.int .i64 ((n : Int) + 1)) (.int .i64 (tt : Int)) (.int .i64 (d : Int)))
                    obtain ⟨r0, r1, r2, r3, r4, r5, r6⟩ := E6.out.r
                    have r7 := E6.out.r.o1
                    have r8 := E6.out.r.o2
                    have o0 := X2.out.c0
                    have o1 := X2.out.c1
                    have o2 := X2.out.c2
                    have cc := hide (And.intro E6.out.s.c0 E6.out.s.c1)
                    have cc2 := hide ((E6.out.s.beside2 (g := w.heap.size + 1) (by omega) (.int .i64 ((n : Int) + 1)) (.int .i64 (tt : Int)) (.int .i64 (d : Int))))
                    go_region_held3 (fun w' => w'.cell? ⟨w.heap.size, 0, none⟩ = some (.int .i64 (n : Int)) ∧ w'.cell? ⟨w.heap.size, 1, none⟩ = some (.int .i64 (L : Int))) (first | (exact cc.out) | (exact cc2.out)) (fail)
                    go_wp2_with fail
                    refine bodyPost_ret (v := .tuple #[.agg #[.int .i64 ((n : Int) + 1), .int .i64 (tt : Int), .int .i64 (d : Int)], .int .i64 (tt : Int), .int .i64 0]) (by simp [results, Tryd.f24, go_sem, o0, o1, o2]) rfl ?_
                    exact ⟨0, tt, ah + sz, hgg.out, .inl rfl, (fun _ => ⟨by rw [hdl.out]; rfl, ⟨by rw [← Nat.add_assoc]; exact FIN.out.1.heap, FIN.out.1.ge⟩⟩), (fun h => absurd rfl h), FIN.out.2.drew⟩
              · have q1 : (xi % 2 == 1) = false := by rw [← hxi.out]; simp; omega
                have q2 : xi / 2 = zx := by rw [← hxi.out]; have := hzv.1 (by omega); omega
                clear hzv
                replace hzx := hide hzx
                replace hpar := hide hpar
                have s0 := E6.out.s.c0
                have s1 := E6.out.s.c1
                have s2 := E6.out.s.c2
                by_cases hlo : dd < 1
                · have hgg : Hid (gtm n L D (num l) len m = (60, 0, 0)) := by show _ = _; rw [hgg0.out, if_neg (by omega)]
                  have FIN := hide (E6.out.done (Nat.le_refl _) (.int .i64 0) (.int .i64 0) (.int .i64 0))
                  have X2 := hide (E6.out.r.set (.int .i64 0) (.int .i64 0) (.int .i64 0))
                  obtain ⟨r0, r1, r2, r3, r4, r5, r6⟩ := E6.out.r
                  have r7 := E6.out.r.o1
                  have r8 := E6.out.r.o2
                  have o0 := X2.out.c0
                  have o1 := X2.out.c1
                  have o2 := X2.out.c2
                  go_wp2_with (go_at_call 43; refine (C.out _).mono ?_; rintro e wq ⟨rfl, rfl⟩)
                  refine bodyPost_ret (v := .tuple #[.agg #[.int .i64 0, .int .i64 0, .int .i64 0], .int .i64 0, .int .i64 60]) (by simp [results, Tryd.f24, go_sem, o0, o1, o2]) rfl ?_
                  exact ⟨60, 0, 0, hgg.out, .inr (.inr rfl), (fun h => by cases h), (fun _ => ⟨rfl, _, FIN.out.1⟩), FIN.out.2⟩
                · by_cases hhi : 35184372088832 - (L : Int) < dd
                  · have hgg : Hid (gtm n L D (num l) len m = (60, 0, 0)) := by show _ = _; rw [hgg0.out, if_neg (by omega)]
                    have FIN := hide (E6.out.done (Nat.le_refl _) (.int .i64 0) (.int .i64 0) (.int .i64 0))
                    have X2 := hide (E6.out.r.set (.int .i64 0) (.int .i64 0) (.int .i64 0))
                    obtain ⟨r0, r1, r2, r3, r4, r5, r6⟩ := E6.out.r
                    have r7 := E6.out.r.o1
                    have r8 := E6.out.r.o2
                    have o0 := X2.out.c0
                    have o1 := X2.out.c1
                    have o2 := X2.out.c2
                    go_wp2_with (go_at_call 43; refine (C.out _).mono ?_; rintro e wq ⟨rfl, rfl⟩)
                    refine bodyPost_ret (v := .tuple #[.agg #[.int .i64 0, .int .i64 0, .int .i64 0], .int .i64 0, .int .i64 60]) (by simp [results, Tryd.f24, go_sem, o0, o1, o2]) rfl ?_
                    exact ⟨60, 0, 0, hgg.out, .inr (.inr rfl), (fun h => by cases h), (fun _ => ⟨rfl, _, FIN.out.1⟩), FIN.out.2⟩
                  · obtain ⟨d, rfl⟩ := Int.eq_ofNat_of_zero_le (show 0 ≤ dd by omega)
                    have hgg : Hid (gtm n L D (num l) len m = (0, L + d, ah + sz)) := by
                      show _ = _
                      rw [hgg0.out, if_pos (by omega)]
                      congr 2
                      omega
                    have hdl : Hid (dl n L (L + d) = d) := by show _ = _; unfold dl; rw [if_neg hn.out]; omega
                    have hE := hide E6.out.drew
                    have q3 : (d : Int) ≤ 35184372088832 := by omega
                    obtain ⟨tt, htt⟩ : ∃ tt, L + d = tt := ⟨_, rfl⟩
                    rw [htt] at hgg hdl
                    have q4 : (L : Int) + (d : Int) = (tt : Int) := by omega
                    have q5 : (tt : Int) ≤ 35184372088832 := by omega
                    replace htt := hide htt
                    go_upto_region 30 with (go_at_call 43; refine (C.out _).mono ?_; rintro e wq ⟨rfl, rfl⟩)
                    have hw1 : IntKind.i64.wrap ((L : Int) + (d : Int)) = (tt : Int) := by rw [q4, IntKind.wrap_i64]; omega
                    have hw2 : IntKind.i64.wrap ((n : Int) + 1) = (n : Int) + 1 := by rw [IntKind.wrap_i64]; omega
                    have hw3 : IntKind.i64.wrap (tt : Int) = (tt : Int) := by rw [IntKind.wrap_i64]; omega
                    have FIN := hide (E6.out.done (Nat.le_refl _) (.int .i64 ((n : Int) + 1)) (.int .i64 (tt : Int)) (.int .i64 (d : Int)))
                    have X2 := hide (E6.out.r.set (.int .i64 ((n : Int) + 1)) (.int .i64 (tt : Int)) (.int .i64 (d : Int)))
                    obtain ⟨r0, r1, r2, r3, r4, r5, r6⟩ := E6.out.r
                    have r7 := E6.out.r.o1
                    have r8 := E6.out.r.o2
                    have o0 := X2.out.c0
                    have o1 := X2.out.c1
                    have o2 := X2.out.c2
                    have cc := hide (And.intro E6.out.s.c0 E6.out.s.c1)
                    have cc2 := hide ((E6.out.s.beside2 (g := w.heap.size + 1) (by omega) (.int .i64 ((n : Int) + 1)) (.int .i64 (tt : Int)) (.int .i64 (d : Int))))
                    go_region_held3 (fun w' => w'.cell? ⟨w.heap.size, 0, none⟩ = some (.int .i64 (n : Int)) ∧ w'.cell? ⟨w.heap.size, 1, none⟩ = some (.int .i64 (L : Int))) (first | (exact cc.out) | (exact cc2.out)) (fail)
                    go_wp2_with fail
                    refine bodyPost_ret (v := .tuple #[.agg #[.int .i64 ((n : Int) + 1), .int .i64 (tt : Int), .int .i64 (d : Int)], .int .i64 (tt : Int), .int .i64 0]) (by simp [results, Tryd.f24, go_sem, o0, o1, o2]) rfl ?_
                    exact ⟨0, tt, ah + sz, hgg.out, .inl rfl, (fun _ => ⟨by rw [hdl.out]; rfl, ⟨by rw [← Nat.add_assoc]; exact FIN.out.1.heap, FIN.out.1.ge⟩⟩), (fun h => absurd rfl h), FIN.out.2.drew⟩
            · rw [if_pos hcc] at hgg0
              have hgg := hgg0
              have hne : ¬ ((cls x : Nat) : Int) = (i : Int) := by omega
              replace hcc := hide hcc
              generalize ((cls x : Nat) : Int) = cx at *
              have s0 := E6.out.s.c0
              have s1 := E6.out.s.c1
              have s2 := E6.out.s.c2
              have FIN := hide (E6.out.done (Nat.le_refl _) (.int .i64 0) (.int .i64 0) (.int .i64 0))
              have X2 := hide (E6.out.r.set (.int .i64 0) (.int .i64 0) (.int .i64 0))
              obtain ⟨r0, r1, r2, r3, r4, r5, r6⟩ := E6.out.r
              have r7 := E6.out.r.o1
              have r8 := E6.out.r.o2
              have o0 := X2.out.c0
              have o1 := X2.out.c1
              have o2 := X2.out.c2
              go_wp2_with (go_at_call 43; refine (C.out _).mono ?_; rintro e wq ⟨rfl, rfl⟩)
              refine bodyPost_ret (v := .tuple #[.agg #[.int .i64 0, .int .i64 0, .int .i64 0], .int .i64 0, .int .i64 60]) (by simp [results, Tryd.f24, go_sem, o0, o1, o2]) rfl ?_
              exact ⟨60, 0, 0, hgg.out, .inr (.inr rfl), (fun h => by cases h), (fun _ => ⟨rfl, _, FIN.out.1⟩), FIN.out.2⟩
          · have hgg : Hid (gtm n L D (num l) len m = (50, 0, 0)) := by
              show _ = _
              unfold gtm
              rw [if_neg hn.out, hrc.out]
              simp only [gtc, hah.out, hsz.out]
              rw [if_pos (by omega)]
            have P := hide (getRf_bits E5.out.rf E5.out.few sz (ni := (sz : Int)) rfl (by omega) E5.out.n8 (by omega))
            replace hroom := hide hroom
            go_wp2_with fail
            refine P.out.mono ?_
            rintro e w6 ⟨rfl, j, rfl⟩
            have E6 := hide (E5.out.drewN j)
            clear P E5 lc LC
            have FIN := hide (E6.out.done (Nat.le_refl _) (.int .i64 0) (.int .i64 0) (.int .i64 0))
            have X2 := hide (E6.out.r.set (.int .i64 0) (.int .i64 0) (.int .i64 0))
            obtain ⟨r0, r1, r2, r3, r4, r5, r6⟩ := E6.out.r
            have r7 := E6.out.r.o1
            have r8 := E6.out.r.o2
            have o0 := X2.out.c0
            have o1 := X2.out.c1
            have o2 := X2.out.c2
            go_wp2_with fail
            refine bodyPost_ret (v := .tuple #[.agg #[.int .i64 0, .int .i64 0, .int .i64 0], .int .i64 0, .int .i64 50]) (by simp [results, Tryd.f24, go_sem, o0, o1, o2]) rfl ?_
            exact ⟨50, 0, 0, hgg.out, .inr (.inl rfl), (fun h => by cases h), (fun _ => ⟨rfl, _, FIN.out.1⟩), FIN.out.2⟩
        · have hres : Hid (rcs (num l) len m 0 = rcs (num l) len m (i + 1)) := hc.out.trans (rcs_one hlt (by omega) (by omega))
          have P := hide (getRf E.out.rf E.out.H E.out.hap E.out.few 1 (ni := 1) (xi := 1) rfl hx1 rfl (by decide) hroom1)
          clear hx1 hb2
          go_wp2_with fail
          refine P.out.mono ?_
          rintro e w4 ⟨rfl, R4, b4⟩
          have E4 := hide (E.out.get b4 R4 hroom1)
          clear P E R4 b4 hc
          replace hroom1 := hide hroom1
          go_wp2_with fail
          go_roundw
          case rel => exact ⟨i + 1, by omega, by go_num, hres, E4⟩
          case measure => simp [intOf]; omega
      · have hgg : Hid (gtm n L D (num l) len m = (50, 0, 0)) := by
          show _ = _
          unfold gtm
          rw [if_neg hn.out, hc.out, rcs_none hlt (by omega)]
        have P := hide (getRf_bits E.out.rf E.out.few 1 (ni := 1) rfl (by decide) E.out.n8 (by omega))
        replace hroom1 := hide hroom1
        go_wp2_with fail
        refine P.out.mono ?_
        rintro e w3 ⟨rfl, j, rfl⟩
        have E3 := hide (E.out.drewN j)
        clear P E
        have FIN := hide (E3.out.done (Nat.le_refl _) (.int .i64 0) (.int .i64 0) (.int .i64 0))
        have X2 := hide (E3.out.r.set (.int .i64 0) (.int .i64 0) (.int .i64 0))
        obtain ⟨r0, r1, r2, r3, r4, r5, r6⟩ := E3.out.r
        have r7 := E3.out.r.o1
        have r8 := E3.out.r.o2
        have o0 := X2.out.c0
        have o1 := X2.out.c1
        have o2 := X2.out.c2
        go_wp2_with fail
        refine bodyPost_ret (v := .tuple #[.agg #[.int .i64 0, .int .i64 0, .int .i64 0], .int .i64 0, .int .i64 50]) (by simp [results, Tryd.f24, go_sem, o0, o1, o2]) rfl ?_
        exact ⟨50, 0, 0, hgg.out, .inr (.inl rfl), (fun h => by cases h), (fun _ => ⟨rfl, _, FIN.out.1⟩), FIN.out.2⟩
    · obtain rfl : i = 4 := by omega
      have hrc : Hid (rcs (num l) len m 0 = some 4) := hc.out.trans (rcs_four _ _ _)
      have hc4 := hi
      have E4 : Hid (RG w wr base p a len cap l (m + cAhead 4) w.heap.size (.int .i64 (n : Int)) (.int .i64 (L : Int)) (.int .i64 (D : Int))) := E
      clear E hc
      obtain ⟨c, hci⟩ : ∃ c, 4 = c := ⟨_, rfl⟩
      have hc4i : ¬ (c : Int) < 4 := by omega
      rw [show ((4 : Nat) : Int) = (c : Int) by rw [← hci]]
      rw [hci] at hrc E4
      replace hc4 : c ≤ 4 := by omega
      replace hci := hide hci
      have LC : Hid ((wr.alloc (.cells #[.int .i64 0, .int .i64 7, .int .i64 12, .int .i64 20, .int .i64 48] 3)).cell? ⟨wr.heap.size, c, none⟩ = some (.int .i64 ((cSize c : Nat) : Int))) := lit5 wr hc4
      have hsz48 := cSize_le c
      obtain ⟨sz, hsz⟩ : ∃ sz, cSize c = sz := ⟨_, rfl⟩
      obtain ⟨ah, hah⟩ : ∃ ah, cAhead c = ah := ⟨_, rfl⟩
      rw [hsz] at LC hsz48
      have lc := LC.out
      have k1 : (c : Int) < 5 := by omega
      have k2 : (0 : Int) ≤ (c : Int) := by omega
      have k3 : (sz : Int) ≤ 48 := by omega
      replace hsz := hide hsz
      replace hah := hide hah
      rw [hah.out] at E4
      have E5 := hide (E4.out.below ((Below.refl wr.heap.size wr).alloc (Nat.le_refl _) (.cells #[.int .i64 0, .int .i64 7, .int .i64 12, .int .i64 20, .int .i64 48] 3)))
      clear E4
      by_cases hroom : m + ah + sz ≤ 8 * len
      · obtain ⟨x, hx⟩ : ∃ x, rd (num l) len (m + ah) sz = x := ⟨_, rfl⟩
        have hxl : x < 281474976710656 := Nat.lt_of_lt_of_le (by rw [← hx]; exact rd_lt _ _ _ _) (by have := Nat.pow_le_pow_right (n := 2) (by decide) hsz48; omega : 2 ^ sz ≤ 281474976710656)
        have P := hide (getRf E5.out.rf E5.out.H E5.out.hap E5.out.few sz (ni := (sz : Int)) (xi := (x : Int)) rfl hx rfl (by omega) hroom)
        replace hx := hide hx
        replace hroom := hide hroom
        have C := hide (class_any x)
        go_wp2_with fail
        refine P.out.mono ?_
        rintro e w6 ⟨rfl, R6, b6⟩
        have E6 := hide (E5.out.get b6 R6 hroom.out)
        clear P E5 R6 b6 lc LC
        have hgg0 : Hid (gtm n L D (num l) len m = if cls x ≠ c then (60, 0, 0) else if (L : Int) < (L : Int) + (D : Int) + zag x ∧ (L : Int) + (D : Int) + zag x ≤ 35184372088832 then (0, ((L : Int) + (D : Int) + zag x).toNat, ah + sz) else (60, 0, 0)) := by
          show _ = _
          unfold gtm
          rw [if_neg hn.out, hrc.out]
          simp only [gtc, hah.out, hsz.out]
          rw [if_neg (by have := hroom.out; omega), hx.out]
        have hclx := cls_le x
        by_cases hcc : cls x = c
        · rw [if_neg (by simp [hcc])] at hgg0
          rw [hcc] at C
          have hzb : -281474976710656 ≤ zag x ∧ zag x ≤ 281474976710656 := by unfold zag; split <;> omega
          have hzv : (x % 2 = 0 → zag x = ((x / 2 : Nat) : Int)) ∧ (x % 2 = 1 → zag x = -((x / 2 : Nat) : Int) - 1) := by
            unfold zag
            exact ⟨fun h => by rw [if_pos h], fun h => by rw [if_neg (by omega)]⟩
          obtain ⟨zx, hzx⟩ : ∃ zx, zag x = zx := ⟨_, rfl⟩
          rw [hzx] at hgg0 hzb hzv
          have z1 := hzb.1
          have z2 := hzb.2
          obtain ⟨dd, hdd⟩ : ∃ dd : Int, (D : Int) + zx = dd := ⟨_, rfl⟩
          obtain ⟨xi, hxi⟩ : ∃ xi : Int, (x : Int) = xi := ⟨_, rfl⟩
          rw [hxi] at C
          rw [hxi]
          have y1 : 0 ≤ xi := by omega
          have y2 : xi < 281474976710656 := by omega
          replace hcc := hide hcc
          replace hxi := hide hxi
          clear hclx hzb
          by_cases hpar : x % 2 = 1
          · have q1 : (xi % 2 == 1) = true := by rw [← hxi.out]; simp; omega
            have q2 : -(xi / 2) - 1 = zx := by rw [← hxi.out]; have := hzv.2 hpar; omega
            clear hzv
            replace hzx := hide hzx
            replace hpar := hide hpar
            have s0 := E6.out.s.c0
            have s1 := E6.out.s.c1
            have s2 := E6.out.s.c2
            by_cases hlo : dd < 1
            · have hgg : Hid (gtm n L D (num l) len m = (60, 0, 0)) := by show _ = _; rw [hgg0.out, if_neg (by omega)]
              have FIN := hide (E6.out.done (Nat.le_refl _) (.int .i64 0) (.int .i64 0) (.int .i64 0))
              have X2 := hide (E6.out.r.set (.int .i64 0) (.int .i64 0) (.int .i64 0))
              obtain ⟨r0, r1, r2, r3, r4, r5, r6⟩ := E6.out.r
              have r7 := E6.out.r.o1
              have r8 := E6.out.r.o2
              have o0 := X2.out.c0
              have o1 := X2.out.c1
              have o2 := X2.out.c2
              go_wp2_with (go_at_call 43; refine (C.out _).mono ?_; rintro e wq ⟨rfl, rfl⟩)
              refine bodyPost_ret (v := .tuple #[.agg #[.int .i64 0, .int .i64 0, .int .i64 0], .int .i64 0, .int .i64 60]) (by simp [results, Tryd.f24, go_sem, o0, o1, o2]) rfl ?_
              exact ⟨60, 0, 0, hgg.out, .inr (.inr rfl), (fun h => by cases h), (fun _ => ⟨rfl, _, FIN.out.1⟩), FIN.out.2⟩
            · by_cases hhi : 35184372088832 - (L : Int) < dd
              · have hgg : Hid (gtm n L D (num l) len m = (60, 0, 0)) := by show _ = _; rw [hgg0.out, if_neg (by omega)]
                have FIN := hide (E6.out.done (Nat.le_refl _) (.int .i64 0) (.int .i64 0) (.int .i64 0))
                have X2 := hide (E6.out.r.set (.int .i64 0) (.int .i64 0) (.int .i64 0))
                obtain ⟨r0, r1, r2, r3, r4, r5, r6⟩ := E6.out.r
                have r7 := E6.out.r.o1
                have r8 := E6.out.r.o2
                have o0 := X2.out.c0
                have o1 := X2.out.c1
                have o2 := X2.out.c2
                go_wp2_with (go_at_call 43; refine (C.out _).mono ?_; rintro e wq ⟨rfl, rfl⟩)
                refine bodyPost_ret (v := .tuple #[.agg #[.int .i64 0, .int .i64 0, .int .i64 0], .int .i64 0, .int .i64 60]) (by simp [results, Tryd.f24, go_sem, o0, o1, o2]) rfl ?_
                exact ⟨60, 0, 0, hgg.out, .inr (.inr rfl), (fun h => by cases h), (fun _ => ⟨rfl, _, FIN.out.1⟩), FIN.out.2⟩
              · obtain ⟨d, rfl⟩ := Int.eq_ofNat_of_zero_le (show 0 ≤ dd by omega)
                have hgg : Hid (gtm n L D (num l) len m = (0, L + d, ah + sz)) := by
                  show _ = _
                  rw [hgg0.out, if_pos (by omega)]
                  congr 2
                  omega
                have hdl : Hid (dl n L (L + d) = d) := by show _ = _; unfold dl; rw [if_neg hn.out]; omega
                have hE := hide E6.out.drew
                have q3 : (d : Int) ≤ 35184372088832 := by omega
                obtain ⟨tt, htt⟩ : ∃ tt, L + d = tt := ⟨_, rfl⟩
                rw [htt] at hgg hdl
                have q4 : (L : Int) + (d : Int) = (tt : Int) := by omega
                have q5 : (tt : Int) ≤ 35184372088832 := by omega
                replace htt := hide htt
                go_upto_region 30 with (go_at_call 43; refine (C.out _).mono ?_; rintro e wq ⟨rfl, rfl⟩)
                have hw1 : IntKind.i64.wrap ((L : Int) + (d : Int)) = (tt : Int) := by rw [q4, IntKind.wrap_i64]; omega
                have hw2 : IntKind.i64.wrap ((n : Int) + 1) = (n : Int) + 1 := by rw [IntKind.wrap_i64]; omega
                have hw3 : IntKind.i64.wrap (tt : Int) = (tt : Int) := by rw [IntKind.wrap_i64]; omega
                have FIN := hide (E6.out.done (Nat.le_refl _) (.int .i64 ((n : Int) + 1)) (.int .i64 (tt : Int)) (.int .i64 (d : Int)))
                have X2 := hide (E6.out.r.set (.int .i64 ((n : Int) + 1)) (.int .i64 (tt : Int)) (.int .i64 (d : Int)))
                obtain ⟨r0, r1, r2, r3, r4, r5, r6⟩ := E6.out.r
                have r7 := E6.out.r.o1
                have r8 := E6.out.r.o2
                have o0 := X2.out.c0
                have o1 := X2.out.c1
                have o2 := X2.out.c2
                have cc := hide (And.intro E6.out.s.c0 E6.out.s.c1)
                have cc2 := hide ((E6.out.s.beside2 (g := w.heap.size + 1) (by omega) (.int .i64 ((n : Int) + 1)) (.int .i64 (tt : Int)) (.int .i64 (d : Int))))
                go_region_held3 (fun w' => w'.cell? ⟨w.heap.size, 0, none⟩ = some (.int .i64 (n : Int)) ∧ w'.cell? ⟨w.heap.size, 1, none⟩ = some (.int .i64 (L : Int))) (first | (exact cc.out) | (exact cc2.out)) (fail)
                go_wp2_with fail
                refine bodyPost_ret (v := .tuple #[.agg #[.int .i64 ((n : Int) + 1), .int .i64 (tt : Int), .int .i64 (d : Int)], .int .i64 (tt : Int), .int .i64 0]) (by simp [results, Tryd.f24, go_sem, o0, o1, o2]) rfl ?_
                exact ⟨0, tt, ah + sz, hgg.out, .inl rfl, (fun _ => ⟨by rw [hdl.out]; rfl, ⟨by rw [← Nat.add_assoc]; exact FIN.out.1.heap, FIN.out.1.ge⟩⟩), (fun h => absurd rfl h), FIN.out.2.drew⟩
          · have q1 : (xi % 2 == 1) = false := by rw [← hxi.out]; simp; omega
            have q2 : xi / 2 = zx := by rw [← hxi.out]; have := hzv.1 (by omega); omega
            clear hzv
            replace hzx := hide hzx
            replace hpar := hide hpar
            have s0 := E6.out.s.c0
            have s1 := E6.out.s.c1
            have s2 := E6.out.s.c2
            by_cases hlo : dd < 1
            · have hgg : Hid (gtm n L D (num l) len m = (60, 0, 0)) := by show _ = _; rw [hgg0.out, if_neg (by omega)]
              have FIN := hide (E6.out.done (Nat.le_refl _) (.int .i64 0) (.int .i64 0) (.int .i64 0))
              have X2 := hide (E6.out.r.set (.int .i64 0) (.int .i64 0) (.int .i64 0))
              obtain ⟨r0, r1, r2, r3, r4, r5, r6⟩ := E6.out.r
              have r7 := E6.out.r.o1
              have r8 := E6.out.r.o2
              have o0 := X2.out.c0
              have o1 := X2.out.c1
              have o2 := X2.out.c2
              go_wp2_with (go_at_call 43; refine (C.out _).mono ?_; rintro e wq ⟨rfl, rfl⟩)
              refine bodyPost_ret (v := .tuple #[.agg #[.int .i64 0, .int .i64 0, .int .i64 0], .int .i64 0, .int .i64 60]) (by simp [results, Tryd.f24, go_sem, o0, o1, o2]) rfl ?_
              exact ⟨60, 0, 0, hgg.out, .inr (.inr rfl), (fun h => by cases h), (fun _ => ⟨rfl, _, FIN.out.1⟩), FIN.out.2⟩
            · by_cases hhi : 35184372088832 - (L : Int) < dd
              · have hgg : Hid (gtm n L D (num l) len m = (60, 0, 0)) := by show _ = _; rw [hgg0.out, if_neg (by omega)]
                have FIN := hide (E6.out.done (Nat.le_refl _) (.int .i64 0) (.int .i64 0) (.int .i64 0))
                have X2 := hide (E6.out.r.set (.int .i64 0) (.int .i64 0) (.int .i64 0))
                obtain ⟨r0, r1, r2, r3, r4, r5, r6⟩ := E6.out.r
                have r7 := E6.out.r.o1
                have r8 := E6.out.r.o2
                have o0 := X2.out.c0
                have o1 := X2.out.c1
                have o2 := X2.out.c2
                go_wp2_with (go_at_call 43; refine (C.out _).mono ?_; rintro e wq ⟨rfl, rfl⟩)
                refine bodyPost_ret (v := .tuple #[.agg #[.int .i64 0, .int .i64 0, .int .i64 0], .int .i64 0, .int .i64 60]) (by simp [results, Tryd.f24, go_sem, o0, o1, o2]) rfl ?_
                exact ⟨60, 0, 0, hgg.out, .inr (.inr rfl), (fun h => by cases h), (fun _ => ⟨rfl, _, FIN.out.1⟩), FIN.out.2⟩
              · obtain ⟨d, rfl⟩ := Int.eq_ofNat_of_zero_le (show 0 ≤ dd by omega)
                have hgg : Hid (gtm n L D (num l) len m = (0, L + d, ah + sz)) := by
                  show _ = _
                  rw [hgg0.out, if_pos (by omega)]
                  congr 2
                  omega
                have hdl : Hid (dl n L (L + d) = d) := by show _ = _; unfold dl; rw [if_neg hn.out]; omega
                have hE := hide E6.out.drew
                have q3 : (d : Int) ≤ 35184372088832 := by omega
                obtain ⟨tt, htt⟩ : ∃ tt, L + d = tt := ⟨_, rfl⟩
                rw [htt] at hgg hdl
                have q4 : (L : Int) + (d : Int) = (tt : Int) := by omega
                have q5 : (tt : Int) ≤ 35184372088832 := by omega
                replace htt := hide htt
                go_upto_region 30 with (go_at_call 43; refine (C.out _).mono ?_; rintro e wq ⟨rfl, rfl⟩)
                have hw1 : IntKind.i64.wrap ((L : Int) + (d : Int)) = (tt : Int) := by rw [q4, IntKind.wrap_i64]; omega
                have hw2 : IntKind.i64.wrap ((n : Int) + 1) = (n : Int) + 1 := by rw [IntKind.wrap_i64]; omega
                have hw3 : IntKind.i64.wrap (tt : Int) = (tt : Int) := by rw [IntKind.wrap_i64]; omega
                have FIN := hide (E6.out.done (Nat.le_refl _) (.int .i64 ((n : Int) + 1)) (.int .i64 (tt : Int)) (.int .i64 (d : Int)))
                have X2 := hide (E6.out.r.set (.int .i64 ((n : Int) + 1)) (.int .i64 (tt : Int)) (.int .i64 (d : Int)))
                obtain ⟨r0, r1, r2, r3, r4, r5, r6⟩ := E6.out.r
                have r7 := E6.out.r.o1
                have r8 := E6.out.r.o2
                have o0 := X2.out.c0
                have o1 := X2.out.c1
                have o2 := X2.out.c2
                have cc := hide (And.intro E6.out.s.c0 E6.out.s.c1)
                have cc2 := hide ((E6.out.s.beside2 (g := w.heap.size + 1) (by omega) (.int .i64 ((n : Int) + 1)) (.int .i64 (tt : Int)) (.int .i64 (d : Int))))
                go_region_held3 (fun w' => w'.cell? ⟨w.heap.size, 0, none⟩ = some (.int .i64 (n : Int)) ∧ w'.cell? ⟨w.heap.size, 1, none⟩ = some (.int .i64 (L : Int))) (first | (exact cc.out) | (exact cc2.out)) (fail)
                go_wp2_with fail
                refine bodyPost_ret (v := .tuple #[.agg #[.int .i64 ((n : Int) + 1), .int .i64 (tt : Int), .int .i64 (d : Int)], .int .i64 (tt : Int), .int .i64 0]) (by simp [results, Tryd.f24, go_sem, o0, o1, o2]) rfl ?_
                exact ⟨0, tt, ah + sz, hgg.out, .inl rfl, (fun _ => ⟨by rw [hdl.out]; rfl, ⟨by rw [← Nat.add_assoc]; exact FIN.out.1.heap, FIN.out.1.ge⟩⟩), (fun h => absurd rfl h), FIN.out.2.drew⟩
        · rw [if_pos hcc] at hgg0
          have hgg := hgg0
          have hne : ¬ ((cls x : Nat) : Int) = (c : Int) := by omega
          replace hcc := hide hcc
          generalize ((cls x : Nat) : Int) = cx at *
          have s0 := E6.out.s.c0
          have s1 := E6.out.s.c1
          have s2 := E6.out.s.c2
          have FIN := hide (E6.out.done (Nat.le_refl _) (.int .i64 0) (.int .i64 0) (.int .i64 0))
          have X2 := hide (E6.out.r.set (.int .i64 0) (.int .i64 0) (.int .i64 0))
          obtain ⟨r0, r1, r2, r3, r4, r5, r6⟩ := E6.out.r
          have r7 := E6.out.r.o1
          have r8 := E6.out.r.o2
          have o0 := X2.out.c0
          have o1 := X2.out.c1
          have o2 := X2.out.c2
          go_wp2_with (go_at_call 43; refine (C.out _).mono ?_; rintro e wq ⟨rfl, rfl⟩)
          refine bodyPost_ret (v := .tuple #[.agg #[.int .i64 0, .int .i64 0, .int .i64 0], .int .i64 0, .int .i64 60]) (by simp [results, Tryd.f24, go_sem, o0, o1, o2]) rfl ?_
          exact ⟨60, 0, 0, hgg.out, .inr (.inr rfl), (fun h => by cases h), (fun _ => ⟨rfl, _, FIN.out.1⟩), FIN.out.2⟩
      · have hgg : Hid (gtm n L D (num l) len m = (50, 0, 0)) := by
          show _ = _
          unfold gtm
          rw [if_neg hn.out, hrc.out]
          simp only [gtc, hah.out, hsz.out]
          rw [if_pos (by omega)]
        have P := hide (getRf_bits E5.out.rf E5.out.few sz (ni := (sz : Int)) rfl (by omega) E5.out.n8 (by omega))
        replace hroom := hide hroom
        go_wp2_with fail
        refine P.out.mono ?_
        rintro e w6 ⟨rfl, j, rfl⟩
        have E6 := hide (E5.out.drewN j)
        clear P E5 lc LC
        have FIN := hide (E6.out.done (Nat.le_refl _) (.int .i64 0) (.int .i64 0) (.int .i64 0))
        have X2 := hide (E6.out.r.set (.int .i64 0) (.int .i64 0) (.int .i64 0))
        obtain ⟨r0, r1, r2, r3, r4, r5, r6⟩ := E6.out.r
        have r7 := E6.out.r.o1
        have r8 := E6.out.r.o2
        have o0 := X2.out.c0
        have o1 := X2.out.c1
        have o2 := X2.out.c2
        go_wp2_with fail
        refine bodyPost_ret (v := .tuple #[.agg #[.int .i64 0, .int .i64 0, .int .i64 0], .int .i64 0, .int .i64 50]) (by simp [results, Tryd.f24, go_sem, o0, o1, o2]) rfl ?_
        exact ⟨50, 0, 0, hgg.out, .inr (.inl rfl), (fun h => by cases h), (fun _ => ⟨rfl, _, FIN.out.1⟩), FIN.out.2⟩
end Go.Proofs.YtpopkoedeckfoaaDoor
