/-
  read in one; xor.Get.
-/
import Derived.Test.YtmddkinecplooaaDoorXP
namespace Go.Proofs.YtmddkinecplooaaDoor
open Go.RowKit
set_option linter.unusedVariables false
set_option linter.unusedSimpArgs false

theorem readX_ok {w : World} {base p m : Nat} {v : Value} {l : List Int} (h : Rd w base p v l m) (ht : Tab w) (hb0 : 0 < base) {n L a b V k a' b' : Nat} (hw : OkW a b) (hL : L < 18446744073709551616) (hg : gX n L a b (num l) l.length m = some (V, k, a', b')) :
    Calls Tryd.prog 46 #[.pointer (some ⟨p, 0, none⟩), .agg #[.int .i64 (n : Int), .int .u64 (L : Int), .int .i64 (a : Int), .int .i64 (b : Int)]] w fun e w' => e = .returned (.tuple #[.int .u64 (V : Int), .agg #[.int .i64 (a' : Int), .int .i64 (b' : Int)], .int .i64 0]) ∧ Rd w' base p v l (m + k) ∧ Did w w' base p nul nul := by
  unfold gX at hg
  by_cases hn : n = 0
  · rw [if_pos hn] at hg
    subst hn
    split at hg
    · cases hg
    · cases hg
      exact read0_ok h ht hb0 (by omega) rfl
  · rw [if_neg hn, rX_eq hw] at hg
    cases hF : rF a b (num l) l.length m with
    | none => rw [hF] at hg; cases hg
    | some q =>
      obtain ⟨mk, fa, fb, m'⟩ := q
      rw [hF] at hg
      simp only [Option.bind_some] at hg
      obtain ⟨hfab, hmm, hmN⟩ := rF_bound hw hF
      unfold rT at hg
      split at hg
      · cases hg
      · split at hg
        · rename_i h1 h2
          cases hg
          have := read1_ok h ht hb0 hn hw hF hL (by omega) h2
          rw [show m + (m' + fS mk fa fb - m) = m' + fS mk fa fb by omega]
          exact this
        · cases hg
theorem readX_no {w : World} {base p m : Nat} {v : Value} {l : List Int} (h : Rd w base p v l m) (ht : Tab w) (hb0 : 0 < base) {n L a b : Nat} (hw : OkW a b) (hg : gX n L a b (num l) l.length m = none) :
    Calls Tryd.prog 46 #[.pointer (some ⟨p, 0, none⟩), .agg #[.int .i64 (n : Int), .int .u64 (L : Int), .int .i64 (a : Int), .int .i64 (b : Int)]] w fun e w' => ∃ x y : Int, e = .returned (.tuple #[.int .u64 0, .agg #[.int .i64 x, .int .i64 y], .int .i64 50]) ∧ Did w w' base p nul nul := by
  unfold gX at hg
  by_cases hn : n = 0
  · rw [if_pos hn] at hg
    subst hn
    split at hg
    · exact read0_no h ht hb0 (by assumption)
    · cases hg
  · rw [if_neg hn, rX_eq hw] at hg
    cases hF : rF a b (num l) l.length m with
    | none => exact read1_f h ht hb0 hn hF
    | some q =>
      obtain ⟨mk, fa, fb, m'⟩ := q
      rw [hF] at hg
      simp only [Option.bind_some] at hg
      unfold rT at hg
      split at hg
      · exact read1_b h ht hb0 hn hw hF (by assumption)
      · split at hg
        · cases hg
        · exact read1_n h ht hb0 hn hw hF (by omega) (by assumption)

theorem Rd.bx {w : World} {base p m : Nat} {v : Value} {l : List Int} (h : Rd w base p v l m) : Bx w p 88 #[v, .int .i64 (m : Int), .bool true] := h.1.heap
/-- A copy of a reader. -/
theorem Rd.copy {w : World} {base p n : Nat} {v : Value} {l : List Int} (h : Rd w base p v l n) : Rd (w.alloc (.cells #[v, .int .i64 (n : Int), .bool true] 88)) base w.heap.size v l n := by
  have hlt := h.lt
  refine ⟨⟨heap_alloc_new w _, by omega, owns_of_block h.1.own (fun k hk => ?_), fun e => ?_⟩, h.2⟩
  · exact Below.heap_alloc w _ k (h.1.own.lt k hk).2
  · have := (h.1.own.lt _ e).2; omega
/-- The copy has read. -/
theorem did_copy {w0 w w' : World} {base p c : Nat} (d : Did w0 w base p nul nul) (e : Did w w' base c nul nul) (hc : w0.heap.size ≤ c) : Did w0 w' base p nul nul :=
  ⟨d.bel.trans e.bel, d.but.trans e.but (fun i hi h => by have := fp_nul h; omega), fun i _ h => h⟩
theorem GS.copy {w0 w w' : World} {base p c m : Nat} {v : Value} {l : List Int} (h : GS w0 w base p v l m) (e : Did w w' base c nul nul) (hc : w0.heap.size ≤ c) (hnf : ¬ fp p v c) : GS w0 w' base p v l m :=
  ⟨⟨h.rd.1.kept e.but (fun k hk => by rw [fp_nul hk]; exact hnf), h.rd.2⟩, did_copy h.d e hc, h.t.kept e.bel h.b0, h.b0, h.bw⟩
theorem Kx.copy {w w' : World} {base p c g : Nat} {v : Value} {t : TypeId} {xs : Array Value} (h : Kx w p v g t xs) (e : Did w w' base c nul nul) (hg : g ≠ c) : Kx w' p v g t xs :=
  ⟨h.bx.did e (fun hf => hg (fp_nul hf)), h.nf⟩
/-- The reader is set where the copy stands. -/
theorem GS.set {w0 w : World} {base p m : Nat} {v : Value} {l : List Int} (h : GS w0 w base p v l m) (m' : Nat) (hm : m' ≤ 8 * l.length) : GS w0 (((w.setCell ⟨p, 0, none⟩ v).setCell ⟨p, 1, none⟩ (.int .i64 (m' : Int))).setCell ⟨p, 2, none⟩ (.bool true)) base p v l m' := by
  have hb := but_set3 w p v (.int .i64 (m' : Int)) (.bool true)
  have hlt := h.rd.lt
  have hbel : Below base w (((w.setCell ⟨p, 0, none⟩ v).setCell ⟨p, 1, none⟩ (.int .i64 (m' : Int))).setCell ⟨p, 2, none⟩ (.bool true)) := hb.below (by omega) (fun i hi => by omega)
  refine ⟨⟨⟨h.rd.bx.set3 v (.int .i64 (m' : Int)) (.bool true), h.rd.1.ge, owns_of_block h.rd.1.own (fun k hk => hb.block k (h.rd.1.own.lt k hk).2 (fun e => h.rd.1.ne (by rw [← e]; exact hk))), h.rd.1.ne⟩, h.rd.2.1, h.rd.2.2.1, hm⟩, ⟨h.d.bel.trans hbel, h.d.but.trans hb (fun i hi e => .inl e), h.d.own⟩, h.t.kept hbel h.b0, h.b0, h.bw⟩
theorem Kx.set {w : World} {p g : Nat} {v : Value} {t : TypeId} {xs : Array Value} (h : Kx w p v g t xs) (x y z : Value) : Kx (((w.setCell ⟨p, 0, none⟩ x).setCell ⟨p, 1, none⟩ y).setCell ⟨p, 2, none⟩ z) p v g t xs :=
  h.but (but_set3 w p x y z) (fun e => h.nf (.inl e))
set_option maxRecDepth 100000 in
set_option maxHeartbeats 4000000 in
theorem getX_bad {w : World} {base p m : Nat} {v : Value} {l : List Int} (h : Rd w base p v l m) (ht : Tab w) (hb0 : 0 < base) {n L a b : Int} (hno : okSI n a b = false) (ha : a ≤ 9223372036854775807) (hb : b ≤ 9223372036854775807) :
    Calls Tryd.prog 25 #[.pointer (some ⟨p, 0, none⟩), .agg #[.int .i64 n, .int .u64 L, .int .i64 a, .int .i64 b]] w fun e w' => e = .returned (.tuple #[.agg #[.int .i64 0, .int .u64 0, .int .i64 0, .int .i64 0], .int .u64 0, .int .i64 2]) ∧ Did w w' base p nul nul := by
  have MB := hide (fun w => mayBe_any n L a b w ha hb)
  rw [hno] at MB
  have E0 := GS.start h ht hb0
  have hz := zero24
  have S0 := hide ((Kx.newG h 24 #[.int .i64 n, .int .u64 L, .int .i64 a, .int .i64 b]).alloc (.cells #[.int .i64 0, .int .u64 0, .int .i64 0, .int .i64 0] 24))
  have E0' := E0.alloc (.cells #[.int .i64 n, .int .u64 L, .int .i64 a, .int .i64 b] 24)
  have R0 := hide (Kx.newG_at E0'.rd (g := w.heap.size + 1) (by simp) 24 #[.int .i64 0, .int .u64 0, .int .i64 0, .int .i64 0])
  have E1 := hide (E0'.alloc (.cells #[.int .i64 0, .int .u64 0, .int .i64 0, .int .i64 0] 24))
  clear E0 E0' h ht
  have P := hide (getG E1.out.rd 0 (ni := 0) (xi := 0) (x := 0) rfl (rd_zero _ _ _) rfl (by decide) (by have := E1.out.rd.2.2.2; omega))
  go_enter Tryd.func25, Tryd.ntmps25
  go_wp2_with fail
  refine P.out.mono ?_
  rintro e w2 ⟨rfl, W2, D2⟩
  have E2 := hide (E1.out.get D2 W2)
  have R2 := hide (R0.out.didN D2)
  have S2 := hide (S0.out.didN D2)
  clear P E1 R0 S0 W2 D2
  have s0 := S2.out.bx.st4.c0
  have s1 := S2.out.bx.st4.c1
  have s2 := S2.out.bx.st4.c2
  have s3 := S2.out.bx.st4.c3
  go_wp2_with fail
  refine (MB.out _).mono ?_
  rintro e w6 ⟨rfl, b3⟩
  have E6 := hide (E2.out.below b3)
  have R6 := hide (R2.out.below b3)
  clear E2 R2 S2 b3 s0 s1 s2 s3
  have X2 := (R6.out.bx.set4 (.int .i64 0) (.int .u64 0) (.int .i64 0) (.int .i64 0)).st4
  have FIN := hide (E6.out.but (but_set4 w6 (w.heap.size + 1) (.int .i64 0) (.int .u64 0) (.int .i64 0) (.int .i64 0)) (by omega) R6.out.nf)
  obtain ⟨p0, p1, p2, p3, p4, p5, p6, p7, p8, p9, p10⟩ := R6.out.bx.st4
  have z0 := X2.c0
  have z1 := X2.c1
  have z2 := X2.c2
  have z3 := X2.c3
  clear X2
  go_wp2_with fail
  refine bodyPost_ret (v := .tuple #[.agg #[.int .i64 0, .int .u64 0, .int .i64 0, .int .i64 0], .int .u64 0, .int .i64 2]) (by simp [results, Tryd.f25, go_sem, z0, z1, z2, z3]) rfl ?_
  exact ⟨rfl, FIN.out.d⟩
set_option maxRecDepth 100000 in
set_option maxHeartbeats 4000000 in
theorem getX_no {w : World} {base p m : Nat} {v : Value} {l : List Int} (h : Rd w base p v l m) (ht : Tab w) (hb0 : 0 < base) {n L a b : Nat} (hs : OkS n a b) (hg : gX n L a b (num l) l.length m = none) :
    Calls Tryd.prog 25 #[.pointer (some ⟨p, 0, none⟩), .agg #[.int .i64 (n : Int), .int .u64 (L : Int), .int .i64 (a : Int), .int .i64 (b : Int)]] w fun e w' => e = .returned (.tuple #[.agg #[.int .i64 0, .int .u64 0, .int .i64 0, .int .i64 0], .int .u64 0, .int .i64 50]) ∧ Did w w' base p nul nul := by
  obtain ⟨av, cv, rfl⟩ := h.1.slice
  have MB := hide (fun w => mayBe_any (n : Int) (L : Int) (a : Int) (b : Int) w (by rcases hs.w with h | h <;> omega) (by rcases hs.w with h | h <;> omega))
  rw [okSI_of hs] at MB
  have RX := hide (fun c wx (h : Rd wx base c (.slice av l.length cv) l m) (ht : Tab wx) => readX_no (L := L) h ht hb0 hs.w hg)
  have E0 := GS.start h ht hb0
  have hz := zero24
  have S0 := hide ((Kx.newG h 24 #[.int .i64 (n : Int), .int .u64 (L : Int), .int .i64 (a : Int), .int .i64 (b : Int)]).alloc (.cells #[.int .i64 0, .int .u64 0, .int .i64 0, .int .i64 0] 24))
  have E0' := E0.alloc (.cells #[.int .i64 (n : Int), .int .u64 (L : Int), .int .i64 (a : Int), .int .i64 (b : Int)] 24)
  have R0 := hide (Kx.newG_at E0'.rd (g := w.heap.size + 1) (by simp) 24 #[.int .i64 0, .int .u64 0, .int .i64 0, .int .i64 0])
  have E1 := hide (E0'.alloc (.cells #[.int .i64 0, .int .u64 0, .int .i64 0, .int .i64 0] 24))
  clear E0 E0' h ht
  clear hs hg
  have P := hide (getG E1.out.rd 0 (ni := 0) (xi := 0) (x := 0) rfl (rd_zero _ _ _) rfl (by decide) (by have := E1.out.rd.2.2.2; omega))
  go_enter Tryd.func25, Tryd.ntmps25
  go_wp2_with fail
  refine P.out.mono ?_
  rintro e w2 ⟨rfl, W2, D2⟩
  have E2 := hide (E1.out.get D2 W2)
  have R2 := hide (R0.out.didN D2)
  have S2 := hide (S0.out.didN D2)
  clear P E1 R0 S0 W2 D2
  have s0 := S2.out.bx.st4.c0
  have s1 := S2.out.bx.st4.c1
  have s2 := S2.out.bx.st4.c2
  have s3 := S2.out.bx.st4.c3
  go_wp2_with fail
  refine (MB.out _).mono ?_
  rintro e w3 ⟨rfl, b3⟩
  have E3 := hide (E2.out.below b3)
  have R3 := hide (R2.out.below b3)
  have S3 := hide (S2.out.below b3)
  clear E2 R2 S2 b3 s0 s1 s2 s3
  have C4 := hide E3.out.rd.copy
  have E4 := hide (E3.out.alloc (.cells #[.slice av l.length cv, .int .i64 ((m + 0 : Nat) : Int), .bool true] 88))
  have R4 := hide (R3.out.alloc (.cells #[.slice av l.length cv, .int .i64 ((m + 0 : Nat) : Int), .bool true] 88))
  have S4 := hide (S3.out.alloc (.cells #[.slice av l.length cv, .int .i64 ((m + 0 : Nat) : Int), .bool true] 88))
  have hc4 : Hid (w.heap.size + 1 < w3.heap.size ∧ w3.heap.size ≠ p) := by have := R3.out.bx.lt; have := E3.out.rd.lt; show _ ∧ _; omega
  have hnf4 := hide (E3.out.rd.not (Nat.le_refl _))
  have c0 := E3.out.rd.bx.st3.c0
  have c1 := E3.out.rd.bx.st3.c1
  have c2 := E3.out.rd.bx.st3.c2
  clear E3 R3 S3
  simp only [Nat.add_zero] at C4 E4 R4 S4 c1
  have s0 := S4.out.bx.st4.c0
  have s1 := S4.out.bx.st4.c1
  have s2 := S4.out.bx.st4.c2
  have s3 := S4.out.bx.st4.c3
  have P := hide (RX.out _ _ C4.out E4.out.t)
  go_wp2_with fail
  refine P.out.mono ?_
  rintro e w5 ⟨x, y, rfl, D5⟩
  have DD := did_copy E4.out.d D5 (by have := hc4.out; omega)
  have R5 := R4.out.copy D5 (by have := hc4.out; omega)
  have R6 := hide (R5.alloc (.cells #[.int .i64 x, .int .i64 y] 81))
  have bw := hide E4.out.bw
  have hbb := hide (show base ≤ w5.heap.size by have := E4.out.rd.lt; have := D5.bel.size; omega)
  have bt := but_set4 (w5.alloc (.cells #[.int .i64 x, .int .i64 y] 81)) (w.heap.size + 1) (.int .i64 0) (.int .u64 0) (.int .i64 0) (.int .i64 0)
  have D6 := DD.post ((Below.refl _ w5).alloc (Nat.le_refl _) (.cells #[.int .i64 x, .int .i64 y] 81)) hbb.out
  have hbel : Below base (w5.alloc (.cells #[.int .i64 x, .int .i64 y] 81)) _ := bt.below (by simp; have := hbb.out; omega) (fun i hi => by have := bw.out; omega)
  have D7 : Hid (Did w _ base p nul nul) := ⟨D6.bel.trans hbel, D6.but.trans bt (fun i hi e => by omega), D6.own⟩
  clear P E4 R4 S4 C4 D5 DD R5 bt D6 hbel s0 s1 s2 s3 c0 c1 c2
  have X2 := (R6.out.bx.set4 (.int .i64 0) (.int .u64 0) (.int .i64 0) (.int .i64 0)).st4

  obtain ⟨p0, p1, p2, p3, p4, p5, p6, p7, p8, p9, p10⟩ := R6.out.bx.st4
  have z0 := X2.c0
  have z1 := X2.c1
  have z2 := X2.c2
  have z3 := X2.c3
  clear X2
  go_wp2_with fail
  refine bodyPost_ret (v := .tuple #[.agg #[.int .i64 0, .int .u64 0, .int .i64 0, .int .i64 0], .int .u64 0, .int .i64 50]) (by simp [results, Tryd.f25, go_sem, z0, z1, z2, z3]) rfl ?_
  exact ⟨rfl, D7.out⟩
set_option maxRecDepth 100000 in
set_option maxHeartbeats 4000000 in
theorem getX_ok {w : World} {base p m : Nat} {v : Value} {l : List Int} (h : Rd w base p v l m) (ht : Tab w) (hb0 : 0 < base) {n L a b V k a' b' : Nat} (hs : OkS n a b) (hL : L < 18446744073709551616) (hg : gX n L a b (num l) l.length m = some (V, k, a', b')) :
    Calls Tryd.prog 25 #[.pointer (some ⟨p, 0, none⟩), .agg #[.int .i64 (n : Int), .int .u64 (L : Int), .int .i64 (a : Int), .int .i64 (b : Int)]] w fun e w' => e = .returned (.tuple #[.agg #[.int .i64 ((n + 1 : Nat) : Int), .int .u64 (V : Int), .int .i64 (a' : Int), .int .i64 (b' : Int)], .int .u64 (V : Int), .int .i64 0]) ∧ Rd w' base p v l (m + k) ∧ Did w w' base p nul nul := by
  obtain ⟨av, cv, rfl⟩ := h.1.slice
  have MB := hide (fun w => mayBe_any (n : Int) (L : Int) (a : Int) (b : Int) w (by rcases hs.w with h | h <;> omega) (by rcases hs.w with h | h <;> omega))
  rw [okSI_of hs] at MB
  have RX := hide (fun c wx (h : Rd wx base c (.slice av l.length cv) l m) (ht : Tab wx) => readX_ok h ht hb0 hs.w hL hg)
  have BE := hide (fun w => behind_any (n : Int) (L : Int) (a : Int) (b : Int) (V : Int) (a' : Int) (b' : Int) ((n + 1 : Nat) : Int) w (by omega) (by have := hs.n; omega) (by omega))
  generalize n + 1 = n1 at *
  have E0 := GS.start h ht hb0
  have hz := zero24
  have S0 := hide ((Kx.newG h 24 #[.int .i64 (n : Int), .int .u64 (L : Int), .int .i64 (a : Int), .int .i64 (b : Int)]).alloc (.cells #[.int .i64 0, .int .u64 0, .int .i64 0, .int .i64 0] 24))
  have E0' := E0.alloc (.cells #[.int .i64 (n : Int), .int .u64 (L : Int), .int .i64 (a : Int), .int .i64 (b : Int)] 24)
  have R0 := hide (Kx.newG_at E0'.rd (g := w.heap.size + 1) (by simp) 24 #[.int .i64 0, .int .u64 0, .int .i64 0, .int .i64 0])
  have E1 := hide (E0'.alloc (.cells #[.int .i64 0, .int .u64 0, .int .i64 0, .int .i64 0] 24))
  clear E0 E0' h ht
  clear hs hg hL
  have P := hide (getG E1.out.rd 0 (ni := 0) (xi := 0) (x := 0) rfl (rd_zero _ _ _) rfl (by decide) (by have := E1.out.rd.2.2.2; omega))
  go_enter Tryd.func25, Tryd.ntmps25
  go_wp2_with fail
  refine P.out.mono ?_
  rintro e w2 ⟨rfl, W2, D2⟩
  have E2 := hide (E1.out.get D2 W2)
  have R2 := hide (R0.out.didN D2)
  have S2 := hide (S0.out.didN D2)
  clear P E1 R0 S0 W2 D2
  have s0 := S2.out.bx.st4.c0
  have s1 := S2.out.bx.st4.c1
  have s2 := S2.out.bx.st4.c2
  have s3 := S2.out.bx.st4.c3
  go_wp2_with fail
  refine (MB.out _).mono ?_
  rintro e w3 ⟨rfl, b3⟩
  have E3 := hide (E2.out.below b3)
  have R3 := hide (R2.out.below b3)
  have S3 := hide (S2.out.below b3)
  clear E2 R2 S2 b3 s0 s1 s2 s3
  have C4 := hide E3.out.rd.copy
  have E4 := hide (E3.out.alloc (.cells #[.slice av l.length cv, .int .i64 ((m + 0 : Nat) : Int), .bool true] 88))
  have R4 := hide (R3.out.alloc (.cells #[.slice av l.length cv, .int .i64 ((m + 0 : Nat) : Int), .bool true] 88))
  have S4 := hide (S3.out.alloc (.cells #[.slice av l.length cv, .int .i64 ((m + 0 : Nat) : Int), .bool true] 88))
  have hc4 : Hid (w.heap.size + 1 < w3.heap.size ∧ w3.heap.size ≠ p) := by have := R3.out.bx.lt; have := E3.out.rd.lt; show _ ∧ _; omega
  have hnf4 := hide (E3.out.rd.not (Nat.le_refl _))
  have c0 := E3.out.rd.bx.st3.c0
  have c1 := E3.out.rd.bx.st3.c1
  have c2 := E3.out.rd.bx.st3.c2
  clear E3 R3 S3
  simp only [Nat.add_zero] at C4 E4 R4 S4 c1
  have s0 := S4.out.bx.st4.c0
  have s1 := S4.out.bx.st4.c1
  have s2 := S4.out.bx.st4.c2
  have s3 := S4.out.bx.st4.c3
  have P := hide (RX.out _ _ C4.out E4.out.t)
  go_wp2_with fail
  refine P.out.mono ?_
  rintro e w5 ⟨rfl, C5', D5⟩
  have E5 := hide ((E4.out.copy D5 (by have := hc4.out; omega) hnf4.out).alloc (.cells #[.int .i64 (a' : Int), .int .i64 (b' : Int)] 81))
  have R5 := hide ((R4.out.copy D5 (by have := hc4.out; omega)).alloc (.cells #[.int .i64 (a' : Int), .int .i64 (b' : Int)] 81))
  have S5 := hide ((S4.out.copy D5 (by have := hc4.out; omega)).alloc (.cells #[.int .i64 (a' : Int), .int .i64 (b' : Int)] 81))
  have W5 := hide (Kx.newG (E4.out.copy D5 (by have := hc4.out; omega) hnf4.out).rd 81 #[.int .i64 (a' : Int), .int .i64 (b' : Int)])
  have C5 := hide (C5'.bx.alloc (.cells #[.int .i64 (a' : Int), .int .i64 (b' : Int)] 81))
  have hk8 := hide C5'.2.2.2
  clear P E4 R4 S4 C4 C5' D5 s0 s1 s2 s3 c0 c1 c2
  obtain ⟨m', hm'⟩ : ∃ m', m' = m + k := ⟨_, rfl⟩
  rw [← hm'] at C5 hk8
  have E6 := hide (E5.out.set m' hk8.out)
  have R6 := hide (R5.out.set (.slice av l.length cv) (.int .i64 (m' : Int)) (.bool true))
  have S6 := hide (S5.out.set (.slice av l.length cv) (.int .i64 (m' : Int)) (.bool true))
  have W6 := hide (W5.out.set (.slice av l.length cv) (.int .i64 (m' : Int)) (.bool true))
  obtain ⟨c0, c1, c2, -, -, -, -, -⟩ := C5.out.st3
  obtain ⟨d0, d1, d2, d3, d4, d5, d6, d7⟩ := E5.out.rd.bx.st3
  have s0 := S6.out.bx.st4.c0
  have s1 := S6.out.bx.st4.c1
  have s2 := S6.out.bx.st4.c2
  have s3 := S6.out.bx.st4.c3
  have y0 := W6.out.bx.st2.c0
  have y1 := W6.out.bx.st2.c1
  replace hm' := hide hm'
  go_wp2_with fail
  refine (BE.out _).mono ?_
  rintro e w7 ⟨rfl, b7⟩
  have E7 := hide (E6.out.below b7)
  have R7 := hide (R6.out.below b7)
  clear E5 E6 R5 R6 S5 S6 W5 W6 C5 b7 c0 c1 c2 d0 d1 d2 d3 d4 d5 d6 d7 s0 s1 s2 s3 y0 y1
  have X2 := (R7.out.bx.set4 (.int .i64 (n1 : Int)) (.int .u64 (V : Int)) (.int .i64 (a' : Int)) (.int .i64 (b' : Int))).st4
  have FIN := hide (E7.out.but (but_set4 w7 (w.heap.size + 1) (.int .i64 (n1 : Int)) (.int .u64 (V : Int)) (.int .i64 (a' : Int)) (.int .i64 (b' : Int))) (by omega) R7.out.nf)
  rw [hm'.out] at FIN
  obtain ⟨p0, p1, p2, p3, p4, p5, p6, p7, p8, p9, p10⟩ := R7.out.bx.st4
  have z0 := X2.c0
  have z1 := X2.c1
  have z2 := X2.c2
  have z3 := X2.c3
  clear X2
  go_wp2_with fail
  refine bodyPost_ret (v := .tuple #[.agg #[.int .i64 (n1 : Int), .int .u64 (V : Int), .int .i64 (a' : Int), .int .i64 (b' : Int)], .int .u64 (V : Int), .int .i64 0]) (by simp [results, Tryd.f25, go_sem, z0, z1, z2, z3]) rfl ?_
  exact ⟨rfl, FIN.out.rd, FIN.out.d⟩
end Go.Proofs.YtmddkinecplooaaDoor
