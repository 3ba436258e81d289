/-
  A reader of the program beside one of the reference, over the bytes that came in.
-/
import Derived.Test.YtpopkoedeckfoaaDoorSR
import Derived.Test.YtpopkoedeckfoaaDoorSJ
namespace Go.Proofs.YtpopkoedeckfoaaDoor
open Go.RowKit
set_option linter.unusedVariables false
set_option linter.unusedSimpArgs false

theorem getR_any {w : World} {base p : Nat} {v : Value} {l : List Int} (h : Rd w base p v l 0) (n : Nat) (hn : n ≤ 64) :
    Calls Tryd.prog 21 #[.pointer (some ⟨p, 0, none⟩), .int .i64 (n : Int)] w fun e w' => ∃ x y, e = .returned (.tuple #[x, y]) ∧ Rd w' base p v l (if n ≤ 8 * l.length then n else 0) ∧ But (fun k => k = p) w w' := by
  by_cases hr : n ≤ 8 * l.length
  · refine (getR h n rfl rfl rfl hn (by omega)).mono ?_
    rintro e w' ⟨rfl, h1, h2⟩
    rw [if_pos hr]
    rw [Nat.zero_add] at h1
    exact ⟨_, _, rfl, h1, h2⟩
  · refine (getR_bits h n rfl hn (by omega)).mono ?_
    rintro e w' ⟨rfl, k, rfl⟩
    rw [if_neg hr]
    exact ⟨_, _, rfl, h.drewN k, (But.refl _ _).drewN k⟩
theorem getRf_any {w : World} {base p len cap : Nat} {a : Option Addr} {l : List Int} (h : Ref w base p a len cap 0) (H : Has w a len cap l) (hap : 0 < len → ∀ b off, a = some ⟨b, off, none⟩ → b < base) (hlen : len ≤ 300) (n : Nat) (hn : n ≤ 64) :
    Calls Tryd.prog 22 #[.pointer (some ⟨p, 0, none⟩), .int .i64 (n : Int)] w fun e w' => ∃ x y, e = .returned (.tuple #[x, y]) ∧ Ref w' base p a len cap (if n ≤ 8 * len then n else 0) ∧ But (fun k => k = p) w w' := by
  by_cases hr : n ≤ 8 * len
  · refine (getRf h H hap hlen n rfl rfl rfl hn (by omega)).mono ?_
    rintro e w' ⟨rfl, h1, h2⟩
    rw [if_pos hr]
    rw [Nat.zero_add] at h1
    exact ⟨_, _, rfl, h1, h2⟩
  · refine (getRf_bits h hlen n rfl hn (by omega) (by omega)).mono ?_
    rintro e w' ⟨rfl, k, rfl⟩
    rw [if_neg hr]
    exact ⟨_, _, rfl, h.drewN k, (But.refl _ _).drewN k⟩

theorem rgetS {w : World} {base p m n L D len cap : Nat} {a : Option Addr} {l : List Int} (h : Ref w base p a len cap m) (H : Has w a len cap l) (hap : 0 < len → ∀ b off, a = some ⟨b, off, none⟩ → b < base) (few : len ≤ 300) (h8 : m ≤ 8 * len) (hs : OkS n L D) :
    Calls Tryd.prog 24 #[.pointer (some ⟨p, 0, none⟩), .agg #[.int .i64 (n : Int), .int .i64 (L : Int), .int .i64 (D : Int)]] w (RGet n L D w base p a len cap l m) := by
  by_cases hn : n = 0
  · subst hn; exact rgetS0 h H hap few h8 hs
  · exact rgetS1 h H hap few h8 hs hn

set_option maxRecDepth 100000 in
set_option maxHeartbeats 4000000 in
theorem rgetS_no {w : World} {base p m len cap : Nat} {a : Option Addr} {l : List Int} (h : Ref w base p a len cap m) (H : Has w a len cap l) (hap : 0 < len → ∀ b off, a = some ⟨b, off, none⟩ → b < base) (few : len ≤ 300) (h8 : m ≤ 8 * len) (n L D : Int) (hno : okSI n L D = false) :
    Calls Tryd.prog 24 #[.pointer (some ⟨p, 0, none⟩), .agg #[.int .i64 n, .int .i64 L, .int .i64 D]] w fun e w' => e = .returned (.tuple #[.agg #[.int .i64 0, .int .i64 0, .int .i64 0], .int .i64 0, .int .i64 60]) ∧ (∃ P3, Ref w' base p a len cap P3) ∧ But (fun k => k = p) w w' := by
  have E0 := hide (RG.start h H hap few h8 (.int .i64 n) (.int .i64 L) (.int .i64 D))
  have hz36 := zero36
  have R := hide (fun w => right_any n L D w)
  rw [hno] at R
  clear h H hap h8 hno
  have s0 := E0.out.s.c0
  have s1 := E0.out.s.c1
  have s2 := E0.out.s.c2
  replace few := hide few
  go_enter Tryd.func24, Tryd.ntmps24
  go_wp2_with fail
  refine (R.out _).mono ?_
  rintro e w2 ⟨rfl, b2⟩
  have E3 := hide (E0.out.below b2)
  clear s0 s1 s2 E0 R b2
  have FIN := hide (E3.out.done (Nat.le_refl _) (.int .i64 0) (.int .i64 0) (.int .i64 0))
  have X2 := hide (E3.out.r.set (.int .i64 0) (.int .i64 0) (.int .i64 0))
  obtain ⟨r0, r1, r2, r3, r4, r5, r6⟩ := E3.out.r
  have r7 := E3.out.r.o1
  have r8 := E3.out.r.o2
  have o0 := X2.out.c0
  have o1 := X2.out.c1
  have o2 := X2.out.c2
  go_wp2_with fail
  refine bodyPost_ret (v := .tuple #[.agg #[.int .i64 0, .int .i64 0, .int .i64 0], .int .i64 0, .int .i64 60]) (by simp [results, Tryd.f24, go_sem, o0, o1, o2]) rfl ?_
  exact ⟨rfl, ⟨_, FIN.out.1⟩, FIN.out.2⟩

/-- Both readers, a box of a state at g. -/
structure QB (w0 w : World) (base q : Nat) (v : Value) (P r : Nat) (a : Option Addr) (len cap : Nat) (l : List Int) (P' : Nat) : Prop where
  rd : Rd w base q v l P
  rf : Ref w base r a len cap P'
  H : Has w a len cap l
  t : Tab w
  bel : Below base w0 w
  b0 : 0 < base
  hap : 0 < len → ∀ b off, a = some ⟨b, off, none⟩ → b < base
  rq : ¬ fp q v r
section
variable {w0 w w' : World} {base q P r len cap P' P2 : Nat} {v : Value} {a : Option Addr} {l : List Int}
theorem QB.below (h : QB w0 w base q v P r a len cap l P') (hb : Below w.heap.size w w') : QB w0 w' base q v P r a len cap l P' :=
  ⟨h.rd.below hb (Nat.le_refl _), h.rf.below hb (Nat.le_refl _), h.H.kept hb (Nat.le_refl _), h.t.kept hb h.t.pos, h.bel.trans (hb.mono (by have := h.rd.lt; omega)), h.b0, h.hap, h.rq⟩
theorem QB.getq (h : QB w0 w base q v P r a len cap l P') (hb : But (fun k => k = q) w w') (hr : Rd w' base q v l P2) : QB w0 w' base q v P2 r a len cap l P' :=
  have hB : Below base w w' := h.rd.1.belR hb
  ⟨hr, h.rf.kept hb (fun e => h.rq (.inl e)), h.H.low hB h.hap, h.t.kept hB h.b0, h.bel.trans hB, h.b0, h.hap, h.rq⟩
theorem QB.getr (h : QB w0 w base q v P r a len cap l P') (hb : But (fun k => k = r) w w') (hr : Ref w' base r a len cap P2) : QB w0 w' base q v P r a len cap l P2 :=
  have hB : Below base w w' := h.rf.bel hb
  ⟨h.rd.but hb h.rq, hr, h.H.low hB h.hap, h.t.kept hB h.b0, h.bel.trans hB, h.b0, h.hap, h.rq⟩
theorem QB.drew (h : QB w0 w base q v P r a len cap l P') : QB w0 w.drew base q v P r a len cap l P' :=
  ⟨⟨h.rd.1.drew, h.rd.2⟩, ⟨h.rf.heap, h.rf.ge⟩, ⟨h.H.hlen, h.H.le, h.H.capb, h.H.nil, h.H.cells, h.H.bytes⟩, h.t, ⟨h.bel.os, h.bel.tape, h.bel.output, h.bel.size, h.bel.block⟩, h.b0, h.hap, h.rq⟩
theorem QB.start (h : Rd w base q v l 0) (H : Has w a len cap l) (hT : Tab w) (hb : Below base w0 w) (hb0 : 0 < base) (hap : 0 < len → ∀ b off, a = some ⟨b, off, none⟩ → b < base) : QB w0 (w.alloc (.cells #[.slice a len cap, .int .i64 0] 49)) base q v 0 w.heap.size a len cap l 0 := by
  have B : Below w.heap.size w (w.alloc (.cells #[.slice a len cap, .int .i64 0] 49)) := (Below.refl _ _).alloc (Nat.le_refl _) _
  have hl := h.lt
  exact ⟨h.below B (Nat.le_refl _), ⟨heap_alloc_new w _, by omega⟩, H.kept B (Nat.le_refl _), hT.kept B hT.pos, hb.trans (B.mono (by omega)), hb0, hap, fun hf => by have := (h.1.fplt _ hf).2; omega⟩
end
end Go.Proofs.YtpopkoedeckfoaaDoor
