/-
  The reference of xor.Put: all of it.
-/
import Derived.Test.YtmjjedbdedemcaaGreatDoorRC
namespace Go.Proofs.YtmjjedbdedemcaaGreatDoor
open Go.RowKit
set_option linter.unusedVariables false

set_option linter.unusedSimpArgs false

theorem rputX {w : World} {base p : Nat} {v : Value} {M : List Bool} (h : RW w base p v M) {n L a b V : Nat} (hs : OkSX n a b) (hL : L < 18446744073709551616) (hV : V < 18446744073709551616) (hroom : M.length + 78 ≤ 524288) :
    Calls Tryz.prog 20 #[.pointer (some ⟨p, 0, none⟩), .agg #[.int .i64 (n : Int), .int .u64 (L : Int), .int .i64 (a : Int), .int .i64 (b : Int)], .int .u64 (V : Int)] w fun e w' =>
      e = .returned (.tuple #[.agg #[.int .i64 ((n + 1 : Nat) : Int), .int .u64 (V : Int), .int .i64 ((cA n L a b V : Nat) : Int), .int .i64 ((cB n L a b V : Nat) : Int)], .int .i64 0]) ∧ ∃ v' M', RW w' base p v' M' ∧ numB M' = numB M * 2 ^ cN n L a b V + cX n L a b V ∧ M'.length = M.length + cN n L a b V ∧ Did w w' base p v v' := by
  by_cases hn : n = 0
  · subst hn
    exact rput0 h hs hV hroom
  · unfold cA cB cN cX
    simp only [if_neg hn]
    have hx := xor64 hV hL
    obtain ⟨x, hxe⟩ : ∃ x, V ^^^ L = x := ⟨_, rfl⟩
    rw [hxe] at hx ⊢
    by_cases h0 : x = 0
    · subst h0
      have e2 : dN a b 0 = 1 := by simp [dN]
      have e3 : dX a b 0 = 0 := by simp [dX]
      have e4 : dA a b 0 = a := by simp [dA]
      have e5 : dB a b 0 = b := by simp [dB]
      rw [e2, e3, e4, e5]
      exact rput1z h hn hs hL hV hxe hroom
    · obtain ⟨f1, f2, f3, f4⟩ := dS_facts hs.w h0 hx
      obtain ⟨g1, g2, g3⟩ := d_le hs.w h0 hx
      by_cases hin : inW a b x
      · have e2 : dN a b x = 2 + dS a b x := by simp [dN, h0, hin]
        have e3 : dX a b x = 2 * 2 ^ dS a b x + x / 2 ^ dB a b x := by simp [dX, h0, hin]
        have e4 : dA a b x = a := by simp [dA, h0, hin]
        have e5 : dB a b x = b := by simp [dB, h0, hin]
        rw [e2, e3, e4, e5]
        rw [e4, e5] at f1 g1
        rw [e5] at f4
        exact rput1i h hn hs hL hV hxe h0 hin f1 f3 rfl f4 g1 hroom
      · have e2 : dN a b x = 14 + dS a b x := by simp [dN, h0, hin]
        have e3 : dX a b x = (12288 + 64 * lz x + (dS a b x - 1)) * 2 ^ dS a b x + x / 2 ^ dB a b x := by simp [dX, h0, hin]
        have e4 : dA a b x = lz x := by simp [dA, h0, hin]
        have e5 : dB a b x = tz x := by simp [dB, h0, hin]
        rw [e2, e3, e4, e5]
        rw [e4, e5] at f1 g1
        rw [e5] at f4
        exact rput1o h hn hs hL hV hxe h0 hin rfl rfl rfl f1 f3 rfl f4 g1 hroom

set_option maxRecDepth 100000 in
set_option maxHeartbeats 4000000 in
theorem rputX_no {w : World} {base p : Nat} {v : Value} {M : List Bool} (h : RW w base p v M) {n L a b V : Int} (hno : okSIX n a b = false) :
    Calls Tryz.prog 20 #[.pointer (some ⟨p, 0, none⟩), .agg #[.int .i64 n, .int .u64 L, .int .i64 a, .int .i64 b], .int .u64 V] w fun e w' =>
      e = .returned (.tuple #[.agg #[.int .i64 0, .int .u64 0, .int .i64 0, .int .i64 0], .int .i64 2]) ∧ RW w' base p v M ∧ Did w w' base p v v := by
  have E0 := RWS.start h
  have hz := zero36
  have E1 := E0.alloc (.cells #[.int .i64 n, .int .u64 L, .int .i64 a, .int .i64 b] 51)
  have R1 := hide (Kx.newR_at E1.rw (g := w.heap.size + 1) (by simp) 51 #[.int .i64 0, .int .u64 0, .int .i64 0, .int .i64 0])
  have E2 := hide (E1.alloc (.cells #[.int .i64 0, .int .u64 0, .int .i64 0, .int .i64 0] 51))
  have S1 := hide ((Kx.newR h 51 #[.int .i64 n, .int .u64 L, .int .i64 a, .int .i64 b]).alloc (.cells #[.int .i64 0, .int .u64 0, .int .i64 0, .int .i64 0] 51))
  have RI := hide (right_anyX n L a b)
  rw [hno] at RI
  clear E0 E1 h hno
  go_enter Tryz.func20, Tryz.ntmps20
  go_wp2_with fail
  refine (RI.out _).mono ?_
  rintro e w6 ⟨rfl, b2⟩
  have E6 := hide (E2.out.below b2)
  have R6 := hide (R1.out.below b2)
  clear E2 S1 R1 b2 RI
  have X2 := (R6.out.bx.set4 (.int .i64 0) (.int .u64 0) (.int .i64 0) (.int .i64 0)).st4
  have FIN := hide (E6.out.but (but_set4 w6 (w.heap.size + 1) (.int .i64 0) (.int .u64 0) (.int .i64 0) (.int .i64 0)) (by omega) R6.out.nf)
  obtain ⟨p0, p1, p2, p3, p4, p5, p6, p7, p8, p9, p10⟩ := R6.out.bx.st4
  have z0 := X2.c0
  have z1 := X2.c1
  have z2 := X2.c2
  have z3 := X2.c3
  clear X2
  go_wp2_with fail
  refine bodyPost_ret (v := .tuple #[.agg #[.int .i64 0, .int .u64 0, .int .i64 0, .int .i64 0], .int .i64 2]) (by simp [results, Tryz.f20, go_sem, z0, z1, z2, z3]) rfl ?_
  exact ⟨rfl, FIN.out.rw, FIN.out.d⟩

/-- A writer of the program beside one of the reference. -/
structure TW (w0 w : World) (base p : Nat) (v : Value) (A k r : Nat) (u : Value) (M : List Bool) : Prop where
  wr : Wr w base p v A k
  rw : RW w base r u M
  dis : Dis p v r u
  t : TabX w
  bel : Below base w0 w
  b0 : 2 < base
section
variable {w0 w w' : World} {base p A k r A' k' : Nat} {v u v' u' : Value} {M M' : List Bool}
theorem TW.below (h : TW w0 w base p v A k r u M) (hb : Below w.heap.size w w') : TW w0 w' base p v A k r u M :=
  ⟨h.wr.below hb (Nat.le_refl _), h.rw.below hb (Nat.le_refl _), h.dis, h.t.kept hb h.t.pos, h.bel.trans (hb.mono (by have := h.wr.lt; omega)), h.b0⟩
theorem TW.alloc (h : TW w0 w base p v A k r u M) (o : Obj) : TW w0 (w.alloc o) base p v A k r u M := h.below ((Below.refl _ _).alloc (Nat.le_refl _) _)
theorem TW.put1 (h : TW w0 w base p v A k r u M) (d : Did w w' base p v v') (hw : Wr w' base p v' A' k') : TW w0 w' base p v' A' k' r u M :=
  ⟨hw, (d.rw h.dis h.rw).1, (d.rw h.dis h.rw).2, h.t.kept d.bel h.b0, h.bel.trans d.bel, h.b0⟩
theorem TW.put2 (h : TW w0 w base p v A k r u M) (d : Did w w' base r u u') (hw : RW w' base r u' M') : TW w0 w' base p v A k r u' M' :=
  ⟨(d.wr h.dis.symm h.wr).1, hw, (d.wr h.dis.symm h.wr).2.symm, h.t.kept d.bel h.b0, h.bel.trans d.bel, h.b0⟩
theorem TW.drew (h : TW w0 w base p v A k r u M) : TW w0 w.drew base p v A k r u M := ⟨h.wr.drew, h.rw.drew, h.dis, h.t, below_drew h.bel, h.b0⟩
theorem TW.start {w0 w : World} {base p : Nat} (h : Wr w base p (.slice none 0 0) 0 0) (hT : TabX w) (hb : Below base w0 w) (hb0 : 2 < base) : TW w0 (w.alloc (.cells #[.slice none 0 0] 47)) base p (.slice none 0 0) 0 0 w.heap.size (.slice none 0 0) [] := by
  have B : Below w.heap.size w (w.alloc (.cells #[.slice none 0 0] 47)) := (Below.refl _ _).alloc (Nat.le_refl _) _
  have hl := h.lt
  refine ⟨h.below B (Nat.le_refl _), ⟨heap_alloc_new w _, by omega, World.ownsRow_nil _ _ _ _, by simp [Value.ownBlock]⟩, h.dis (fun k hk => ?_), hT.kept B hT.pos, hb.trans (B.mono (by omega)), hb0⟩
  rcases hk with rfl | hk
  · exact Nat.le_refl _
  · cases hk
end

end Go.Proofs.YtmjjedbdedemcaaGreatDoor
