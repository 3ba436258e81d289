/-
  The reference's reader, and boxes beside it; the reference's Get.
-/
import Derived.Test.YtmddkinecplooaaDoorXN
import Derived.Test.YtmddkinecplooaaDoorXK
import Derived.Test.YtmddkinecplooaaDoorM
namespace Go.Proofs.YtmddkinecplooaaDoor
open Go.RowKit
set_option linter.unusedVariables false
set_option linter.unusedSimpArgs false

theorem Has.low {w w' : World} {a : Option Addr} {len cap base : Nat} {l : List Int} (h : Has w a len cap l) (hb : Below base w w') (hap : 0 < len → ∀ b off, a = some ⟨b, off, none⟩ → b < base) : Has w' a len cap l := by
  refine ⟨h.hlen, h.le, h.capb, h.nil, fun hp => ?_, h.bytes⟩
  obtain ⟨b, off, e1, e2, e3⟩ := h.cells hp
  exact ⟨b, off, e1, Nat.lt_of_lt_of_le e2 hb.size, fun i hi => (hb.cell (p := ⟨b, off + i, none⟩) (hap hp b off e1)).trans (e3 i hi)⟩
theorem but_below {w w' : World} {S : Nat → Prop} (hb : Below w.heap.size w w') : But S w w' := ⟨hb.os, hb.tape, hb.output, hb.size, fun k hk _ => hb.block k hk⟩
theorem But.drewX {S : Nat → Prop} {a w : World} (h : But S a w) : But S a w.drew := ⟨h.os, h.tape, h.output, h.size, h.block⟩
theorem But.drewNX {S : Nat → Prop} {a w : World} (h : But S a w) (k : Nat) : But S a (w.drewN k) := ⟨h.os, h.tape, h.output, h.size, h.block⟩

/-- A box that is not the block p. -/
structure Nx (w : World) (p g : Nat) (t : TypeId) (xs : Array Value) : Prop where
  bx : Bx w g t xs
  ne : g ≠ p
section
variable {w w' : World} {p g : Nat} {t : TypeId} {xs : Array Value}
theorem Nx.get (h : Nx w p g t xs) (hb : But (fun k => k = p) w w') : Nx w' p g t xs := ⟨h.bx.but hb h.ne, h.ne⟩
theorem Nx.below (h : Nx w p g t xs) (hb : Below w.heap.size w w') : Nx w' p g t xs := ⟨h.bx.below hb, h.ne⟩
theorem Nx.alloc (h : Nx w p g t xs) (o : Obj) : Nx (w.alloc o) p g t xs := ⟨h.bx.alloc o, h.ne⟩
theorem Nx.drewN (h : Nx w p g t xs) (k : Nat) : Nx (w.drewN k) p g t xs := ⟨h.bx, h.ne⟩
theorem Nx.drew (h : Nx w p g t xs) : Nx w.drew p g t xs := ⟨h.bx, h.ne⟩
theorem Nx.but (h : Nx w p g t xs) {k : Nat} (hb : But (fun i => i = k) w w') (hk : g ≠ k) : Nx w' p g t xs := ⟨h.bx.but hb hk, h.ne⟩
end
/-- The reference's reader on its way from w0 to w. -/
structure RGS (w0 w : World) (base p : Nat) (ad : Option Addr) (len cap : Nat) (l : List Int) (m : Nat) : Prop where
  rf : Ref w base p ad len cap m
  H : Has w ad len cap l
  but : But (fun k => k = p) w0 w
  hap : 0 < len → ∀ b off, ad = some ⟨b, off, none⟩ → b < base
  few : len ≤ 300
  n8 : m ≤ 8 * len
  bw : base ≤ w0.heap.size
section
variable {w0 w w' : World} {base p len cap m m' : Nat} {ad : Option Addr} {l : List Int}
theorem RGS.start (h : Ref w base p ad len cap m) (H : Has w ad len cap l) (hap : 0 < len → ∀ b off, ad = some ⟨b, off, none⟩ → b < base) (few : len ≤ 300) (h8 : m ≤ 8 * len) : RGS w w base p ad len cap l m := ⟨h, H, But.refl _ _, hap, few, h8, by have := h.lt; have := h.ge; omega⟩
theorem RGS.below (h : RGS w0 w base p ad len cap l m) (hb : Below w.heap.size w w') : RGS w0 w' base p ad len cap l m :=
  ⟨h.rf.below hb (Nat.le_refl _), h.H.kept hb (Nat.le_refl _), h.but.trans (but_below (S := fun k => k = p) hb) (fun _ _ h => h), h.hap, h.few, h.n8, h.bw⟩
theorem RGS.alloc (h : RGS w0 w base p ad len cap l m) (o : Obj) : RGS w0 (w.alloc o) base p ad len cap l m := h.below ((Below.refl _ _).alloc (Nat.le_refl _) _)
theorem RGS.get (h : RGS w0 w base p ad len cap l m) (hb : But (fun k => k = p) w w') (hr : Ref w' base p ad len cap m') (h8 : m' ≤ 8 * len) : RGS w0 w' base p ad len cap l m' :=
  ⟨hr, h.H.low (h.rf.bel hb) h.hap, h.but.trans hb (fun _ _ h => h), h.hap, h.few, h8, h.bw⟩
theorem RGS.drewN (h : RGS w0 w base p ad len cap l m) (k : Nat) : RGS w0 (w.drewN k) base p ad len cap l m := ⟨h.rf.drewN k, ⟨h.H.hlen, h.H.le, h.H.capb, h.H.nil, h.H.cells, h.H.bytes⟩, h.but.drewNX k, h.hap, h.few, h.n8, h.bw⟩
theorem RGS.drew (h : RGS w0 w base p ad len cap l m) : RGS w0 w.drew base p ad len cap l m := ⟨⟨h.rf.heap, h.rf.ge⟩, ⟨h.H.hlen, h.H.le, h.H.capb, h.H.nil, h.H.cells, h.H.bytes⟩, h.but.drewX, h.hap, h.few, h.n8, h.bw⟩
theorem RGS.set (h : RGS w0 w base p ad len cap l m) {g : Nat} (hb : But (fun i => i = g) w w') (hg : w0.heap.size ≤ g) (hn : g ≠ p) : RGS w0 w' base p ad len cap l m := by
  have hbw := h.bw
  have hbel : Below base w w' := hb.below (by have := h.but.size; omega) (fun i hi => by omega)
  exact ⟨h.rf.kept hb (fun e => hn e.symm), h.H.low hbel h.hap, h.but.trans hb (fun i hi e => by omega), h.hap, h.few, h.n8, h.bw⟩
end
theorem getRf {w : World} {base p len cap n0 : Nat} {a : Option Addr} {l : List Int} (h : Ref w base p a len cap n0) (H : Has w a len cap l) (hap : 0 < len → ∀ b off, a = some ⟨b, off, none⟩ → b < base) (hlen : len ≤ 300) (n : Nat) {ni xi : Int} {x : Nat} (e1 : ni = (n : Int)) (hx : rd (num l) len n0 n = x) (e2 : (x : Int) = xi) (hn : n ≤ 64) (hroom : n0 + n ≤ 8 * len) :
    Calls Tryd.prog 24 #[.pointer (some ⟨p, 0, none⟩), .int .i64 ni] w fun e w' => e = .returned (.tuple #[.int .u64 xi, .int .i64 0]) ∧ Ref w' base p a len cap (n0 + n) ∧ But (fun k => k = p) w w' := by
  subst e1 e2 hx
  exact rget_ok h H hap hlen n hn hroom
theorem getRf_no {w : World} {base p len cap n0 : Nat} {a : Option Addr} (h : Ref w base p a len cap n0) (hlen : len ≤ 300) (n : Nat) {ni : Int} (e1 : ni = (n : Int)) (hn : n ≤ 64) (h0 : n0 ≤ 8 * len) (hroom : 8 * len < n0 + n) :
    Calls Tryd.prog 24 #[.pointer (some ⟨p, 0, none⟩), .int .i64 ni] w fun e w' => e = .returned (.tuple #[.int .u64 0, .int .i64 50]) ∧ ∃ k, w' = w.drewN k := by
  subst e1
  exact rget_bits h hlen n hn h0 hroom

set_option maxRecDepth 100000 in
set_option maxHeartbeats 8000000 in
theorem rg_bad {w : World} {base p m len cap : Nat} {ad : Option Addr} {l : List Int} (h : Ref w base p ad len cap m) (H : Has w ad len cap l) (hap : 0 < len → ∀ b off, ad = some ⟨b, off, none⟩ → b < base) (few : len ≤ 300) (h8 : m ≤ 8 * len) {n L a b : Int} (hno : okSI n a b = false) :
    Calls Tryd.prog 26 #[.pointer (some ⟨p, 0, none⟩), .agg #[.int .i64 n, .int .u64 L, .int .i64 a, .int .i64 b]] w fun e w' => e = .returned (.tuple #[.agg #[.int .i64 0, .int .u64 0, .int .i64 0, .int .i64 0], .int .u64 0, .int .i64 2]) ∧ But (fun k => k = p) w w' := by
  have E0 := RGS.start h H hap few h8
  have hz := zero36
  have hpl := h.lt
  have S0 : Hid (Nx ((w.alloc (.cells #[.int .i64 n, .int .u64 L, .int .i64 a, .int .i64 b] 36)).alloc (.cells #[.int .i64 0, .int .u64 0, .int .i64 0, .int .i64 0] 36)) p w.heap.size 36 #[.int .i64 n, .int .u64 L, .int .i64 a, .int .i64 b]) := ⟨(Bx.new w 36 _).alloc _, by omega⟩
  have R0 : Hid (Nx ((w.alloc (.cells #[.int .i64 n, .int .u64 L, .int .i64 a, .int .i64 b] 36)).alloc (.cells #[.int .i64 0, .int .u64 0, .int .i64 0, .int .i64 0] 36)) p (w.heap.size + 1) 36 #[.int .i64 0, .int .u64 0, .int .i64 0, .int .i64 0]) := ⟨Bx.new_at (by simp) 36 _, by omega⟩
  have E1 := hide ((E0.alloc (.cells #[.int .i64 n, .int .u64 L, .int .i64 a, .int .i64 b] 36)).alloc (.cells #[.int .i64 0, .int .u64 0, .int .i64 0, .int .i64 0] 36))
  have RI := hide (right_any n L a b)
  replace hpl := hide hpl
  clear E0 h H hap few h8
  rw [hno] at RI
  go_enter Tryd.func26, Tryd.ntmps26
  go_wp2_with fail
  refine (RI.out _).mono ?_
  rintro e w2 ⟨rfl, b2⟩
  have E2 := hide (E1.out.below b2)
  have R2 := hide (R0.out.below b2)
  have S2 := hide (S0.out.below b2)
  clear E1 R0 S0 b2 RI
  clear S2
  have X2 := (R2.out.bx.set4 (.int .i64 0) (.int .u64 0) (.int .i64 0) (.int .i64 0)).st4
  have FIN := hide (E2.out.set (but_set4 w2 (w.heap.size + 1) (.int .i64 0) (.int .u64 0) (.int .i64 0) (.int .i64 0)) (by omega) R2.out.ne)
  obtain ⟨p0, p1, p2, p3, p4, p5, p6, p7, p8, p9, p10⟩ := R2.out.bx.st4
  have z0 := X2.c0
  have z1 := X2.c1
  have z2 := X2.c2
  have z3 := X2.c3
  clear X2
  go_wp2_with fail
  refine bodyPost_ret (v := .tuple #[.agg #[.int .i64 0, .int .u64 0, .int .i64 0, .int .i64 0], .int .u64 0, .int .i64 2]) (by simp [results, Tryd.f26, go_sem, z0, z1, z2, z3]) rfl ?_
  exact ⟨rfl, FIN.out.but⟩
set_option maxRecDepth 100000 in
set_option maxHeartbeats 8000000 in
theorem rg0_no {w : World} {base p m len cap : Nat} {ad : Option Addr} {l : List Int} (h : Ref w base p ad len cap m) (H : Has w ad len cap l) (hap : 0 < len → ∀ b off, ad = some ⟨b, off, none⟩ → b < base) (few : len ≤ 300) (h8 : m ≤ 8 * len) {L a b : Nat} (hs : OkS 0 a b) (hr : 8 * len < m + 64) :
    Calls Tryd.prog 26 #[.pointer (some ⟨p, 0, none⟩), .agg #[.int .i64 0, .int .u64 (L : Int), .int .i64 (a : Int), .int .i64 (b : Int)]] w fun e w' => e = .returned (.tuple #[.agg #[.int .i64 0, .int .u64 0, .int .i64 0, .int .i64 0], .int .u64 0, .int .i64 50]) ∧ But (fun k => k = p) w w' := by
  replace hr := hide hr
  have E0 := RGS.start h H hap few h8
  have hz := zero36
  have hpl := h.lt
  have S0 : Hid (Nx ((w.alloc (.cells #[.int .i64 0, .int .u64 (L : Int), .int .i64 (a : Int), .int .i64 (b : Int)] 36)).alloc (.cells #[.int .i64 0, .int .u64 0, .int .i64 0, .int .i64 0] 36)) p w.heap.size 36 #[.int .i64 0, .int .u64 (L : Int), .int .i64 (a : Int), .int .i64 (b : Int)]) := ⟨(Bx.new w 36 _).alloc _, by omega⟩
  have R0 : Hid (Nx ((w.alloc (.cells #[.int .i64 0, .int .u64 (L : Int), .int .i64 (a : Int), .int .i64 (b : Int)] 36)).alloc (.cells #[.int .i64 0, .int .u64 0, .int .i64 0, .int .i64 0] 36)) p (w.heap.size + 1) 36 #[.int .i64 0, .int .u64 0, .int .i64 0, .int .i64 0]) := ⟨Bx.new_at (by simp) 36 _, by omega⟩
  have E1 := hide ((E0.alloc (.cells #[.int .i64 0, .int .u64 (L : Int), .int .i64 (a : Int), .int .i64 (b : Int)] 36)).alloc (.cells #[.int .i64 0, .int .u64 0, .int .i64 0, .int .i64 0] 36))
  have RI := hide (right_any 0 (L : Int) (a : Int) (b : Int))
  replace hpl := hide hpl
  clear E0 h H hap few h8
  rw [show okSI 0 (a : Int) (b : Int) = true from okSI_of hs] at RI
  clear hs
  go_enter Tryd.func26, Tryd.ntmps26
  go_wp2_with fail
  refine (RI.out _).mono ?_
  rintro e w2 ⟨rfl, b2⟩
  have E2 := hide (E1.out.below b2)
  have R2 := hide (R0.out.below b2)
  have S2 := hide (S0.out.below b2)
  clear E1 R0 S0 b2 RI
  have s0 := S2.out.bx.st4.c0
  have s1 := S2.out.bx.st4.c1
  have s2 := S2.out.bx.st4.c2
  have s3 := S2.out.bx.st4.c3
  have P := hide (getRf_no E2.out.rf E2.out.few 64 (ni := 64) rfl (by decide) E2.out.n8 hr.out)
  go_wp2_with fail
  refine P.out.mono ?_
  rintro e w3 ⟨rfl, j, hj⟩
  have E3 := hide (E2.out.drewN j)
  have R3 := hide (R2.out.drewN j)
  have S3 := hide (S2.out.drewN j)
  rw [← hj] at E3 R3 S3
  clear P E2 hj R2 S2
  clear s0 s1 s2 s3
  have X2 := (R3.out.bx.set4 (.int .i64 0) (.int .u64 0) (.int .i64 0) (.int .i64 0)).st4
  have FIN := hide (E3.out.set (but_set4 w3 (w.heap.size + 1) (.int .i64 0) (.int .u64 0) (.int .i64 0) (.int .i64 0)) (by omega) R3.out.ne)
  obtain ⟨p0, p1, p2, p3, p4, p5, p6, p7, p8, p9, p10⟩ := R3.out.bx.st4
  have z0 := X2.c0
  have z1 := X2.c1
  have z2 := X2.c2
  have z3 := X2.c3
  clear X2
  go_wp2_with fail
  refine bodyPost_ret (v := .tuple #[.agg #[.int .i64 0, .int .u64 0, .int .i64 0, .int .i64 0], .int .u64 0, .int .i64 50]) (by simp [results, Tryd.f26, go_sem, z0, z1, z2, z3]) rfl ?_
  exact ⟨rfl, FIN.out.but⟩
set_option maxRecDepth 100000 in
set_option maxHeartbeats 8000000 in
theorem rg0_ok {w : World} {base p m len cap : Nat} {ad : Option Addr} {l : List Int} (h : Ref w base p ad len cap m) (H : Has w ad len cap l) (hap : 0 < len → ∀ b off, ad = some ⟨b, off, none⟩ → b < base) (few : len ≤ 300) (h8 : m ≤ 8 * len) {L a b V : Nat} (hs : OkS 0 a b) (hr : m + 64 ≤ 8 * len) (hV : rd (num l) len m 64 = V) :
    Calls Tryd.prog 26 #[.pointer (some ⟨p, 0, none⟩), .agg #[.int .i64 0, .int .u64 (L : Int), .int .i64 (a : Int), .int .i64 (b : Int)]] w fun e w' => e = .returned (.tuple #[.agg #[.int .i64 1, .int .u64 (V : Int), .int .i64 (a : Int), .int .i64 (b : Int)], .int .u64 (V : Int), .int .i64 0]) ∧ Ref w' base p ad len cap (m + 64) ∧ But (fun k => k = p) w w' := by
  replace hr := hide hr
  replace hV := hide hV
  have E0 := RGS.start h H hap few h8
  have hz := zero36
  have hpl := h.lt
  have S0 : Hid (Nx ((w.alloc (.cells #[.int .i64 0, .int .u64 (L : Int), .int .i64 (a : Int), .int .i64 (b : Int)] 36)).alloc (.cells #[.int .i64 0, .int .u64 0, .int .i64 0, .int .i64 0] 36)) p w.heap.size 36 #[.int .i64 0, .int .u64 (L : Int), .int .i64 (a : Int), .int .i64 (b : Int)]) := ⟨(Bx.new w 36 _).alloc _, by omega⟩
  have R0 : Hid (Nx ((w.alloc (.cells #[.int .i64 0, .int .u64 (L : Int), .int .i64 (a : Int), .int .i64 (b : Int)] 36)).alloc (.cells #[.int .i64 0, .int .u64 0, .int .i64 0, .int .i64 0] 36)) p (w.heap.size + 1) 36 #[.int .i64 0, .int .u64 0, .int .i64 0, .int .i64 0]) := ⟨Bx.new_at (by simp) 36 _, by omega⟩
  have E1 := hide ((E0.alloc (.cells #[.int .i64 0, .int .u64 (L : Int), .int .i64 (a : Int), .int .i64 (b : Int)] 36)).alloc (.cells #[.int .i64 0, .int .u64 0, .int .i64 0, .int .i64 0] 36))
  have RI := hide (right_any 0 (L : Int) (a : Int) (b : Int))
  replace hpl := hide hpl
  clear E0 h H hap few h8
  rw [show okSI 0 (a : Int) (b : Int) = true from okSI_of hs] at RI
  clear hs
  go_enter Tryd.func26, Tryd.ntmps26
  go_wp2_with fail
  refine (RI.out _).mono ?_
  rintro e w2 ⟨rfl, b2⟩
  have E2 := hide (E1.out.below b2)
  have R2 := hide (R0.out.below b2)
  have S2 := hide (S0.out.below b2)
  clear E1 R0 S0 b2 RI
  have s0 := S2.out.bx.st4.c0
  have s1 := S2.out.bx.st4.c1
  have s2 := S2.out.bx.st4.c2
  have s3 := S2.out.bx.st4.c3
  have P := hide (getRf E2.out.rf E2.out.H E2.out.hap E2.out.few 64 (ni := 64) (xi := (V : Int)) (x := V) rfl hV.out rfl (by decide) hr.out)
  go_wp2_with fail
  refine P.out.mono ?_
  rintro e w3 ⟨rfl, W3, D3⟩
  have E3 := hide (E2.out.get D3 W3 hr.out)
  have R3 := hide (R2.out.get D3)
  have S3 := hide (S2.out.get D3)
  clear P E2 W3 D3 R2 S2
  clear s0 s1 s2 s3
  have s0 := S3.out.bx.st4.c0
  have s1 := S3.out.bx.st4.c1
  have s2 := S3.out.bx.st4.c2
  have s3 := S3.out.bx.st4.c3
  have X2 := (R3.out.bx.set4 (.int .i64 1) (.int .u64 (V : Int)) (.int .i64 (a : Int)) (.int .i64 (b : Int))).st4
  have FIN := hide (E3.out.set (but_set4 w3 (w.heap.size + 1) (.int .i64 1) (.int .u64 (V : Int)) (.int .i64 (a : Int)) (.int .i64 (b : Int))) (by omega) R3.out.ne)
  obtain ⟨p0, p1, p2, p3, p4, p5, p6, p7, p8, p9, p10⟩ := R3.out.bx.st4
  have z0 := X2.c0
  have z1 := X2.c1
  have z2 := X2.c2
  have z3 := X2.c3
  clear X2
  go_wp2_with fail
  refine bodyPost_ret (v := .tuple #[.agg #[.int .i64 1, .int .u64 (V : Int), .int .i64 (a : Int), .int .i64 (b : Int)], .int .u64 (V : Int), .int .i64 0]) (by simp [results, Tryd.f26, go_sem, z0, z1, z2, z3]) rfl ?_
  exact ⟨rfl, FIN.out.rf, FIN.out.but⟩
set_option maxRecDepth 100000 in
set_option maxHeartbeats 8000000 in
theorem rg1_a {w : World} {base p m len cap : Nat} {ad : Option Addr} {l : List Int} (h : Ref w base p ad len cap m) (H : Has w ad len cap l) (hap : 0 < len → ∀ b off, ad = some ⟨b, off, none⟩ → b < base) (few : len ≤ 300) (h8 : m ≤ 8 * len) {n L a b : Nat} (hn : n ≠ 0) (hs : OkS n a b) (hr : 8 * len < m + 1) :
    Calls Tryd.prog 26 #[.pointer (some ⟨p, 0, none⟩), .agg #[.int .i64 (n : Int), .int .u64 (L : Int), .int .i64 (a : Int), .int .i64 (b : Int)]] w fun e w' => e = .returned (.tuple #[.agg #[.int .i64 0, .int .u64 0, .int .i64 0, .int .i64 0], .int .u64 0, .int .i64 50]) ∧ But (fun k => k = p) w w' := by
  replace hr := hide hr
  have E0 := RGS.start h H hap few h8
  have hz := zero36
  have hpl := h.lt
  have S0 : Hid (Nx ((w.alloc (.cells #[.int .i64 (n : Int), .int .u64 (L : Int), .int .i64 (a : Int), .int .i64 (b : Int)] 36)).alloc (.cells #[.int .i64 0, .int .u64 0, .int .i64 0, .int .i64 0] 36)) p w.heap.size 36 #[.int .i64 (n : Int), .int .u64 (L : Int), .int .i64 (a : Int), .int .i64 (b : Int)]) := ⟨(Bx.new w 36 _).alloc _, by omega⟩
  have R0 : Hid (Nx ((w.alloc (.cells #[.int .i64 (n : Int), .int .u64 (L : Int), .int .i64 (a : Int), .int .i64 (b : Int)] 36)).alloc (.cells #[.int .i64 0, .int .u64 0, .int .i64 0, .int .i64 0] 36)) p (w.heap.size + 1) 36 #[.int .i64 0, .int .u64 0, .int .i64 0, .int .i64 0]) := ⟨Bx.new_at (by simp) 36 _, by omega⟩
  have E1 := hide ((E0.alloc (.cells #[.int .i64 (n : Int), .int .u64 (L : Int), .int .i64 (a : Int), .int .i64 (b : Int)] 36)).alloc (.cells #[.int .i64 0, .int .u64 0, .int .i64 0, .int .i64 0] 36))
  have RI := hide (right_any (n : Int) (L : Int) (a : Int) (b : Int))
  replace hpl := hide hpl
  clear E0 h H hap few h8
  rw [okSI_of hs] at RI
  have i0 : ¬ (n : Int) = 0 := by omega
  have i1 : (n : Int) ≤ 4096 := by have := hs.n; omega
  have i2 : 0 ≤ (n : Int) := by omega
  clear hs hn
  go_enter Tryd.func26, Tryd.ntmps26
  go_wp2_with fail
  refine (RI.out _).mono ?_
  rintro e w2 ⟨rfl, b2⟩
  have E2 := hide (E1.out.below b2)
  have R2 := hide (R0.out.below b2)
  have S2 := hide (S0.out.below b2)
  clear E1 R0 S0 b2 RI
  have s0 := S2.out.bx.st4.c0
  have s1 := S2.out.bx.st4.c1
  have s2 := S2.out.bx.st4.c2
  have s3 := S2.out.bx.st4.c3
  have O3 : Hid (Nx (w2.alloc (.cells #[.int .i64 ((n : Int) + 1), .int .u64 (L : Int), .int .i64 (a : Int), .int .i64 (b : Int)] 36)) p w2.heap.size 36 #[.int .i64 ((n : Int) + 1), .int .u64 (L : Int), .int .i64 (a : Int), .int .i64 (b : Int)]) := ⟨Bx.new w2 36 _, by have := E2.out.rf.lt; omega⟩
  have E3 := hide (E2.out.alloc (.cells #[.int .i64 ((n : Int) + 1), .int .u64 (L : Int), .int .i64 (a : Int), .int .i64 (b : Int)] 36))
  have R3 := hide (R2.out.alloc (.cells #[.int .i64 ((n : Int) + 1), .int .u64 (L : Int), .int .i64 (a : Int), .int .i64 (b : Int)] 36))
  have S3 := hide (S2.out.alloc (.cells #[.int .i64 ((n : Int) + 1), .int .u64 (L : Int), .int .i64 (a : Int), .int .i64 (b : Int)] 36))
  have hg3 : Hid (w.heap.size + 1 < w2.heap.size) := R2.out.bx.lt
  clear E2 R2 S2
  have P := hide (getRf_no E3.out.rf E3.out.few 1 (ni := 1) rfl (by decide) E3.out.n8 hr.out)
  go_wp2_with fail
  refine P.out.mono ?_
  rintro e w4 ⟨rfl, j, hj⟩
  have E4 := hide (E3.out.drewN j)
  have R4 := hide (R3.out.drewN j)
  have S4 := hide (S3.out.drewN j)
  have O4 := hide (O3.out.drewN j)
  rw [← hj] at E4 R4 S4 O4
  clear P E3 hj R3 S3 O3
  clear s0 s1 s2 s3
  have X2 := (R4.out.bx.set4 (.int .i64 0) (.int .u64 0) (.int .i64 0) (.int .i64 0)).st4
  have FIN := hide (E4.out.set (but_set4 w4 (w.heap.size + 1) (.int .i64 0) (.int .u64 0) (.int .i64 0) (.int .i64 0)) (by omega) R4.out.ne)
  obtain ⟨p0, p1, p2, p3, p4, p5, p6, p7, p8, p9, p10⟩ := R4.out.bx.st4
  have z0 := X2.c0
  have z1 := X2.c1
  have z2 := X2.c2
  have z3 := X2.c3
  clear X2
  go_wp2_with fail
  refine bodyPost_ret (v := .tuple #[.agg #[.int .i64 0, .int .u64 0, .int .i64 0, .int .i64 0], .int .u64 0, .int .i64 50]) (by simp [results, Tryd.f26, go_sem, z0, z1, z2, z3]) rfl ?_
  exact ⟨rfl, FIN.out.but⟩
set_option maxRecDepth 100000 in
set_option maxHeartbeats 8000000 in
theorem rg1_z {w : World} {base p m len cap : Nat} {ad : Option Addr} {l : List Int} (h : Ref w base p ad len cap m) (H : Has w ad len cap l) (hap : 0 < len → ∀ b off, ad = some ⟨b, off, none⟩ → b < base) (few : len ≤ 300) (h8 : m ≤ 8 * len) {n L a b : Nat} (hn : n ≠ 0) (hs : OkS n a b) (hr : m + 1 ≤ 8 * len) (hx : rd (num l) len m 1 = 0) :
    Calls Tryd.prog 26 #[.pointer (some ⟨p, 0, none⟩), .agg #[.int .i64 (n : Int), .int .u64 (L : Int), .int .i64 (a : Int), .int .i64 (b : Int)]] w fun e w' => e = .returned (.tuple #[.agg #[.int .i64 ((n : Int) + 1), .int .u64 (L : Int), .int .i64 (a : Int), .int .i64 (b : Int)], .int .u64 (L : Int), .int .i64 0]) ∧ Ref w' base p ad len cap (m + 1) ∧ But (fun k => k = p) w w' := by
  replace hr := hide hr
  replace hx := hide hx
  have E0 := RGS.start h H hap few h8
  have hz := zero36
  have hpl := h.lt
  have S0 : Hid (Nx ((w.alloc (.cells #[.int .i64 (n : Int), .int .u64 (L : Int), .int .i64 (a : Int), .int .i64 (b : Int)] 36)).alloc (.cells #[.int .i64 0, .int .u64 0, .int .i64 0, .int .i64 0] 36)) p w.heap.size 36 #[.int .i64 (n : Int), .int .u64 (L : Int), .int .i64 (a : Int), .int .i64 (b : Int)]) := ⟨(Bx.new w 36 _).alloc _, by omega⟩
  have R0 : Hid (Nx ((w.alloc (.cells #[.int .i64 (n : Int), .int .u64 (L : Int), .int .i64 (a : Int), .int .i64 (b : Int)] 36)).alloc (.cells #[.int .i64 0, .int .u64 0, .int .i64 0, .int .i64 0] 36)) p (w.heap.size + 1) 36 #[.int .i64 0, .int .u64 0, .int .i64 0, .int .i64 0]) := ⟨Bx.new_at (by simp) 36 _, by omega⟩
  have E1 := hide ((E0.alloc (.cells #[.int .i64 (n : Int), .int .u64 (L : Int), .int .i64 (a : Int), .int .i64 (b : Int)] 36)).alloc (.cells #[.int .i64 0, .int .u64 0, .int .i64 0, .int .i64 0] 36))
  have RI := hide (right_any (n : Int) (L : Int) (a : Int) (b : Int))
  replace hpl := hide hpl
  clear E0 h H hap few h8
  rw [okSI_of hs] at RI
  have i0 : ¬ (n : Int) = 0 := by omega
  have i1 : (n : Int) ≤ 4096 := by have := hs.n; omega
  have i2 : 0 ≤ (n : Int) := by omega
  clear hs hn
  go_enter Tryd.func26, Tryd.ntmps26
  go_wp2_with fail
  refine (RI.out _).mono ?_
  rintro e w2 ⟨rfl, b2⟩
  have E2 := hide (E1.out.below b2)
  have R2 := hide (R0.out.below b2)
  have S2 := hide (S0.out.below b2)
  clear E1 R0 S0 b2 RI
  have s0 := S2.out.bx.st4.c0
  have s1 := S2.out.bx.st4.c1
  have s2 := S2.out.bx.st4.c2
  have s3 := S2.out.bx.st4.c3
  have O3 : Hid (Nx (w2.alloc (.cells #[.int .i64 ((n : Int) + 1), .int .u64 (L : Int), .int .i64 (a : Int), .int .i64 (b : Int)] 36)) p w2.heap.size 36 #[.int .i64 ((n : Int) + 1), .int .u64 (L : Int), .int .i64 (a : Int), .int .i64 (b : Int)]) := ⟨Bx.new w2 36 _, by have := E2.out.rf.lt; omega⟩
  have E3 := hide (E2.out.alloc (.cells #[.int .i64 ((n : Int) + 1), .int .u64 (L : Int), .int .i64 (a : Int), .int .i64 (b : Int)] 36))
  have R3 := hide (R2.out.alloc (.cells #[.int .i64 ((n : Int) + 1), .int .u64 (L : Int), .int .i64 (a : Int), .int .i64 (b : Int)] 36))
  have S3 := hide (S2.out.alloc (.cells #[.int .i64 ((n : Int) + 1), .int .u64 (L : Int), .int .i64 (a : Int), .int .i64 (b : Int)] 36))
  have hg3 : Hid (w.heap.size + 1 < w2.heap.size) := R2.out.bx.lt
  clear E2 R2 S2
  have P := hide (getRf E3.out.rf E3.out.H E3.out.hap E3.out.few 1 (ni := 1) (xi := 0) (x := 0) rfl hx.out rfl (by decide) hr.out)
  go_wp2_with fail
  refine P.out.mono ?_
  rintro e w4 ⟨rfl, W4, D4⟩
  have E4 := hide (E3.out.get D4 W4 hr.out)
  have R4 := hide (R3.out.get D4)
  have S4 := hide (S3.out.get D4)
  have O4 := hide (O3.out.get D4)
  clear P E3 W4 D4 R3 S3 O3
  clear s0 s1 s2 s3
  go_wp2_with fail
  obtain ⟨w8, hw8⟩ : ∃ w8, w8 = w4 := ⟨_, rfl⟩
  simp only [← hw8] at E4 R4 O4 ⊢
  clear hw8
  obtain ⟨gO, hgO⟩ : ∃ g, g = w2.heap.size := ⟨_, rfl⟩
  simp only [← hgO] at O4 hg3 ⊢
  clear hgO
  have X2 := (R4.out.bx.set4 (.int .i64 ((n : Int) + 1)) (.int .u64 (L : Int)) (.int .i64 (a : Int)) (.int .i64 (b : Int))).st4
  have FIN := hide (E4.out.set (but_set4 w8 (w.heap.size + 1) (.int .i64 ((n : Int) + 1)) (.int .u64 (L : Int)) (.int .i64 (a : Int)) (.int .i64 (b : Int))) (by omega) R4.out.ne).drew
  obtain ⟨p0, p1, p2, p3, p4, p5, p6, p7, p8, p9, p10⟩ := R4.out.bx.st4
  have z0 := X2.c0
  have z1 := X2.c1
  have z2 := X2.c2
  have z3 := X2.c3
  clear X2
  have Oz := hide (O4.out.but (but_set4 w8 (w.heap.size + 1) (.int .i64 ((n : Int) + 1)) (.int .u64 (L : Int)) (.int .i64 (a : Int)) (.int .i64 (b : Int))) (by have := hg3.out; omega)).drew
  refine wp_region_noPanic ?_
  refine wp_region_held_drew (S := (fun w' => St4 w' gO (.int .i64 ((n : Int) + 1)) (.int .u64 (L : Int)) (.int .i64 (a : Int)) (.int .i64 (b : Int)))) (by kernel_rfl) O4.out.drew.bx.st4 (fun hH0 => ?_)
  refine wpAnyH_take (i := 0) (oi := { dst := some 69, op := Op.load 36 (Operand.tmp 9), type := 36, pos := "ref.go:98", after := #[], guard := none }) (v := ?_) rfl (by kernel_rfl) (by kernel_rfl) (by kernel_rfl) (fun _ _ _ h => h) (Or.inl ⟨by rfl, ?_⟩) hH0 ?_
  rotate_left
  · intro w' hw'
    obtain ⟨o0, o1, o2, o3, -, -, -, -, -, -, -⟩ := hw'
    go_simp
    try with_reducible rfl
  try simp only [Act.put, List.setIfInBounds_toArray, List.set_cons_zero, List.set_cons_succ]
  refine wpAnyH_take (i := 1) (oi := { dst := some 70, op := Op.fieldAddr 36 (Operand.tmp 9) 1, type := 0, pos := "ref.go:98", after := #[{ on := 3, ground := Ground.gcOnly Departure.lateStores }], guard := none }) (v := ?_) rfl (by kernel_rfl) (by kernel_rfl) (by kernel_rfl) (fun _ _ _ h => h) (Or.inl ⟨by rfl, ?_⟩) hH0 ?_
  rotate_left
  · intro w' hw'
    obtain ⟨o0, o1, o2, o3, -, -, -, -, -, -, -⟩ := hw'
    go_simp
    try with_reducible rfl
  try simp only [Act.put, List.setIfInBounds_toArray, List.set_cons_zero, List.set_cons_succ]
  refine wpAnyH_take (i := 2) (oi := { dst := some 71, op := Op.load 22 (Operand.tmp 70), type := 22, pos := "ref.go:98", after := #[{ on := 1, ground := Ground.data }, { on := 3, ground := Ground.gcOnly Departure.lateStores }], guard := none }) (v := ?_) rfl (by kernel_rfl) (by kernel_rfl) (by kernel_rfl) (fun _ _ _ h => h) (Or.inl ⟨by rfl, ?_⟩) hH0 ?_
  rotate_left
  · intro w' hw'
    obtain ⟨o0, o1, o2, o3, -, -, -, -, -, -, -⟩ := hw'
    go_simp
    try with_reducible rfl
  try simp only [Act.put, List.setIfInBounds_toArray, List.set_cons_zero, List.set_cons_succ]
  refine wpAnyH_ready (rs := [3]) (by kernel_rfl) (by simp) ?_
  refine AllReadyH.cons (o := { dst := none, op := Op.store 36 (Operand.tmp 4) (Operand.tmp 69), type := 0, pos := "ref.go:98", after := #[{ on := 0, ground := Ground.data }, { on := 0, ground := Ground.phase }, { on := 1, ground := Ground.textOnly Departure.lateStores }, { on := 2, ground := Ground.textOnly Departure.lateStores }], guard := none }) rfl (fun K hK => ?_) AllReadyH.nil
  go_simp
  refine hK.out _ _ Oz.out.bx.st4 (fun hH1 => ?_)
  clear hK
  try simp only [Act.put, List.setIfInBounds_toArray, List.set_cons_zero, List.set_cons_succ]
  refine wpAnyH_take (i := 4) (oi := { dst := some 5, op := Op.assign (Operand.tmp 71), type := 22, pos := "ref.go:98", after := #[{ on := 2, ground := Ground.data }, { on := 3, ground := Ground.chain }, { on := 0, ground := Ground.phase }, { on := 1, ground := Ground.phase }, { on := 2, ground := Ground.phase }, { on := 3, ground := Ground.phase }], guard := none }) (v := ?_) rfl (by kernel_rfl) (by kernel_rfl) (by kernel_rfl) (fun _ _ _ h => h) (Or.inl ⟨by rfl, ?_⟩) hH1 ?_
  rotate_left
  · intro w' hw'
    obtain ⟨o0, o1, o2, o3, -, -, -, -, -, -, -⟩ := hw'
    go_simp
    try with_reducible rfl
  try simp only [Act.put, List.setIfInBounds_toArray, List.set_cons_zero, List.set_cons_succ]
  refine wpAnyH_take (i := 5) (oi := { dst := some 6, op := Op.assign (Operand.const (Value.int IntKind.i64 0)), type := 32, pos := "ref.go:98", after := #[{ on := 4, ground := Ground.chain }, { on := 0, ground := Ground.phase }, { on := 1, ground := Ground.phase }, { on := 2, ground := Ground.phase }, { on := 3, ground := Ground.phase }, { on := 4, ground := Ground.phase }], guard := none }) (v := ?_) rfl (by kernel_rfl) (by kernel_rfl) (by kernel_rfl) (fun _ _ _ h => h) (Or.inl ⟨by rfl, ?_⟩) hH1 ?_
  rotate_left
  · intro w' hw'
    obtain ⟨o0, o1, o2, o3, -, -, -, -, -, -, -⟩ := hw'
    go_simp
    try with_reducible rfl
  try simp only [Act.put, List.setIfInBounds_toArray, List.set_cons_zero, List.set_cons_succ]
  refine wpAnyH_done (by kernel_rfl) ?_ _
  refine NoPanic.normal ?_
  go_wp2_with fail
  refine bodyPost_ret (v := .tuple #[.agg #[.int .i64 ((n : Int) + 1), .int .u64 (L : Int), .int .i64 (a : Int), .int .i64 (b : Int)], .int .u64 (L : Int), .int .i64 0]) (by simp [results, Tryd.f26, go_sem, z0, z1, z2, z3]) rfl ?_
  exact ⟨rfl, FIN.out.rf, FIN.out.but⟩
set_option maxRecDepth 100000 in
set_option maxHeartbeats 8000000 in
theorem rg1_b {w : World} {base p m len cap : Nat} {ad : Option Addr} {l : List Int} (h : Ref w base p ad len cap m) (H : Has w ad len cap l) (hap : 0 < len → ∀ b off, ad = some ⟨b, off, none⟩ → b < base) (few : len ≤ 300) (h8 : m ≤ 8 * len) {n L a b : Nat} (hn : n ≠ 0) (hs : OkS n a b) (hr : m + 1 ≤ 8 * len) (hx : rd (num l) len m 1 = 1) (hr2 : 8 * len < m + 2) :
    Calls Tryd.prog 26 #[.pointer (some ⟨p, 0, none⟩), .agg #[.int .i64 (n : Int), .int .u64 (L : Int), .int .i64 (a : Int), .int .i64 (b : Int)]] w fun e w' => e = .returned (.tuple #[.agg #[.int .i64 0, .int .u64 0, .int .i64 0, .int .i64 0], .int .u64 0, .int .i64 50]) ∧ But (fun k => k = p) w w' := by
  replace hr := hide hr
  replace hx := hide hx
  replace hr2 := hide hr2
  have E0 := RGS.start h H hap few h8
  have hz := zero36
  have hpl := h.lt
  have S0 : Hid (Nx ((w.alloc (.cells #[.int .i64 (n : Int), .int .u64 (L : Int), .int .i64 (a : Int), .int .i64 (b : Int)] 36)).alloc (.cells #[.int .i64 0, .int .u64 0, .int .i64 0, .int .i64 0] 36)) p w.heap.size 36 #[.int .i64 (n : Int), .int .u64 (L : Int), .int .i64 (a : Int), .int .i64 (b : Int)]) := ⟨(Bx.new w 36 _).alloc _, by omega⟩
  have R0 : Hid (Nx ((w.alloc (.cells #[.int .i64 (n : Int), .int .u64 (L : Int), .int .i64 (a : Int), .int .i64 (b : Int)] 36)).alloc (.cells #[.int .i64 0, .int .u64 0, .int .i64 0, .int .i64 0] 36)) p (w.heap.size + 1) 36 #[.int .i64 0, .int .u64 0, .int .i64 0, .int .i64 0]) := ⟨Bx.new_at (by simp) 36 _, by omega⟩
  have E1 := hide ((E0.alloc (.cells #[.int .i64 (n : Int), .int .u64 (L : Int), .int .i64 (a : Int), .int .i64 (b : Int)] 36)).alloc (.cells #[.int .i64 0, .int .u64 0, .int .i64 0, .int .i64 0] 36))
  have RI := hide (right_any (n : Int) (L : Int) (a : Int) (b : Int))
  replace hpl := hide hpl
  clear E0 h H hap few h8
  rw [okSI_of hs] at RI
  have i0 : ¬ (n : Int) = 0 := by omega
  have i1 : (n : Int) ≤ 4096 := by have := hs.n; omega
  have i2 : 0 ≤ (n : Int) := by omega
  clear hs hn
  go_enter Tryd.func26, Tryd.ntmps26
  go_wp2_with fail
  refine (RI.out _).mono ?_
  rintro e w2 ⟨rfl, b2⟩
  have E2 := hide (E1.out.below b2)
  have R2 := hide (R0.out.below b2)
  have S2 := hide (S0.out.below b2)
  clear E1 R0 S0 b2 RI
  have s0 := S2.out.bx.st4.c0
  have s1 := S2.out.bx.st4.c1
  have s2 := S2.out.bx.st4.c2
  have s3 := S2.out.bx.st4.c3
  have O3 : Hid (Nx (w2.alloc (.cells #[.int .i64 ((n : Int) + 1), .int .u64 (L : Int), .int .i64 (a : Int), .int .i64 (b : Int)] 36)) p w2.heap.size 36 #[.int .i64 ((n : Int) + 1), .int .u64 (L : Int), .int .i64 (a : Int), .int .i64 (b : Int)]) := ⟨Bx.new w2 36 _, by have := E2.out.rf.lt; omega⟩
  have E3 := hide (E2.out.alloc (.cells #[.int .i64 ((n : Int) + 1), .int .u64 (L : Int), .int .i64 (a : Int), .int .i64 (b : Int)] 36))
  have R3 := hide (R2.out.alloc (.cells #[.int .i64 ((n : Int) + 1), .int .u64 (L : Int), .int .i64 (a : Int), .int .i64 (b : Int)] 36))
  have S3 := hide (S2.out.alloc (.cells #[.int .i64 ((n : Int) + 1), .int .u64 (L : Int), .int .i64 (a : Int), .int .i64 (b : Int)] 36))
  have hg3 : Hid (w.heap.size + 1 < w2.heap.size) := R2.out.bx.lt
  clear E2 R2 S2
  have P := hide (getRf E3.out.rf E3.out.H E3.out.hap E3.out.few 1 (ni := 1) (xi := 1) (x := 1) rfl hx.out rfl (by decide) hr.out)
  go_wp2_with fail
  refine P.out.mono ?_
  rintro e w4 ⟨rfl, W4, D4⟩
  have E4 := hide (E3.out.get D4 W4 hr.out)
  have R4 := hide (R3.out.get D4)
  have S4 := hide (S3.out.get D4)
  have O4 := hide (O3.out.get D4)
  clear P E3 W4 D4 R3 S3 O3
  have P := hide (getRf_no E4.out.rf E4.out.few 1 (ni := 1) rfl (by decide) E4.out.n8 hr2.out)
  go_wp2_with fail
  refine P.out.mono ?_
  rintro e w5 ⟨rfl, j, hj⟩
  have E5 := hide (E4.out.drewN j)
  have R5 := hide (R4.out.drewN j)
  have S5 := hide (S4.out.drewN j)
  have O5 := hide (O4.out.drewN j)
  rw [← hj] at E5 R5 S5 O5
  clear P E4 hj R4 S4 O4
  clear s0 s1 s2 s3
  have X2 := (R5.out.bx.set4 (.int .i64 0) (.int .u64 0) (.int .i64 0) (.int .i64 0)).st4
  have FIN := hide (E5.out.set (but_set4 w5 (w.heap.size + 1) (.int .i64 0) (.int .u64 0) (.int .i64 0) (.int .i64 0)) (by omega) R5.out.ne)
  obtain ⟨p0, p1, p2, p3, p4, p5, p6, p7, p8, p9, p10⟩ := R5.out.bx.st4
  have z0 := X2.c0
  have z1 := X2.c1
  have z2 := X2.c2
  have z3 := X2.c3
  clear X2
  go_wp2_with fail
  refine bodyPost_ret (v := .tuple #[.agg #[.int .i64 0, .int .u64 0, .int .i64 0, .int .i64 0], .int .u64 0, .int .i64 50]) (by simp [results, Tryd.f26, go_sem, z0, z1, z2, z3]) rfl ?_
  exact ⟨rfl, FIN.out.but⟩
set_option maxRecDepth 100000 in
set_option maxHeartbeats 8000000 in
theorem rg1_64 {w : World} {base p m len cap : Nat} {ad : Option Addr} {l : List Int} (h : Ref w base p ad len cap m) (H : Has w ad len cap l) (hap : 0 < len → ∀ b off, ad = some ⟨b, off, none⟩ → b < base) (few : len ≤ 300) (h8 : m ≤ 8 * len) {n L b : Nat} (hn : n ≠ 0) (hs : OkS n 64 b) (hr : m + 1 ≤ 8 * len) (hx : rd (num l) len m 1 = 1) (hr2 : m + 2 ≤ 8 * len) (hx2 : rd (num l) len (m + 1) 1 = 0)  :
    Calls Tryd.prog 26 #[.pointer (some ⟨p, 0, none⟩), .agg #[.int .i64 (n : Int), .int .u64 (L : Int), .int .i64 64, .int .i64 (b : Int)]] w fun e w' => e = .returned (.tuple #[.agg #[.int .i64 0, .int .u64 0, .int .i64 0, .int .i64 0], .int .u64 0, .int .i64 50]) ∧ But (fun k => k = p) w w' := by
  replace hr := hide hr
  replace hx := hide hx
  replace hr2 := hide hr2
  replace hx2 := hide hx2
  have E0 := RGS.start h H hap few h8
  have hz := zero36
  have hpl := h.lt
  have S0 : Hid (Nx ((w.alloc (.cells #[.int .i64 (n : Int), .int .u64 (L : Int), .int .i64 64, .int .i64 (b : Int)] 36)).alloc (.cells #[.int .i64 0, .int .u64 0, .int .i64 0, .int .i64 0] 36)) p w.heap.size 36 #[.int .i64 (n : Int), .int .u64 (L : Int), .int .i64 64, .int .i64 (b : Int)]) := ⟨(Bx.new w 36 _).alloc _, by omega⟩
  have R0 : Hid (Nx ((w.alloc (.cells #[.int .i64 (n : Int), .int .u64 (L : Int), .int .i64 64, .int .i64 (b : Int)] 36)).alloc (.cells #[.int .i64 0, .int .u64 0, .int .i64 0, .int .i64 0] 36)) p (w.heap.size + 1) 36 #[.int .i64 0, .int .u64 0, .int .i64 0, .int .i64 0]) := ⟨Bx.new_at (by simp) 36 _, by omega⟩
  have E1 := hide ((E0.alloc (.cells #[.int .i64 (n : Int), .int .u64 (L : Int), .int .i64 64, .int .i64 (b : Int)] 36)).alloc (.cells #[.int .i64 0, .int .u64 0, .int .i64 0, .int .i64 0] 36))
  have RI := hide (right_any (n : Int) (L : Int) 64 (b : Int))
  replace hpl := hide hpl
  clear E0 h H hap few h8
  rw [show okSI (n : Int) 64 (b : Int) = true from okSI_of hs] at RI
  have i0 : ¬ (n : Int) = 0 := by omega
  have i1 : (n : Int) ≤ 4096 := by have := hs.n; omega
  have i2 : 0 ≤ (n : Int) := by omega
  clear hs hn
  go_enter Tryd.func26, Tryd.ntmps26
  go_wp2_with fail
  refine (RI.out _).mono ?_
  rintro e w2 ⟨rfl, b2⟩
  have E2 := hide (E1.out.below b2)
  have R2 := hide (R0.out.below b2)
  have S2 := hide (S0.out.below b2)
  clear E1 R0 S0 b2 RI
  have s0 := S2.out.bx.st4.c0
  have s1 := S2.out.bx.st4.c1
  have s2 := S2.out.bx.st4.c2
  have s3 := S2.out.bx.st4.c3
  have O3 : Hid (Nx (w2.alloc (.cells #[.int .i64 ((n : Int) + 1), .int .u64 (L : Int), .int .i64 64, .int .i64 (b : Int)] 36)) p w2.heap.size 36 #[.int .i64 ((n : Int) + 1), .int .u64 (L : Int), .int .i64 64, .int .i64 (b : Int)]) := ⟨Bx.new w2 36 _, by have := E2.out.rf.lt; omega⟩
  have E3 := hide (E2.out.alloc (.cells #[.int .i64 ((n : Int) + 1), .int .u64 (L : Int), .int .i64 64, .int .i64 (b : Int)] 36))
  have R3 := hide (R2.out.alloc (.cells #[.int .i64 ((n : Int) + 1), .int .u64 (L : Int), .int .i64 64, .int .i64 (b : Int)] 36))
  have S3 := hide (S2.out.alloc (.cells #[.int .i64 ((n : Int) + 1), .int .u64 (L : Int), .int .i64 64, .int .i64 (b : Int)] 36))
  have hg3 : Hid (w.heap.size + 1 < w2.heap.size) := R2.out.bx.lt
  clear E2 R2 S2
  have P := hide (getRf E3.out.rf E3.out.H E3.out.hap E3.out.few 1 (ni := 1) (xi := 1) (x := 1) rfl hx.out rfl (by decide) hr.out)
  go_wp2_with fail
  refine P.out.mono ?_
  rintro e w4 ⟨rfl, W4, D4⟩
  have E4 := hide (E3.out.get D4 W4 hr.out)
  have R4 := hide (R3.out.get D4)
  have S4 := hide (S3.out.get D4)
  have O4 := hide (O3.out.get D4)
  clear P E3 W4 D4 R3 S3 O3
  have P := hide (getRf E4.out.rf E4.out.H E4.out.hap E4.out.few 1 (ni := 1) (xi := 0) (x := 0) rfl hx2.out rfl (by decide) hr2.out)
  go_wp2_with fail
  refine P.out.mono ?_
  rintro e w5 ⟨rfl, W5, D5⟩
  have E5 := hide (E4.out.get D5 W5 hr2.out)
  have R5 := hide (R4.out.get D5)
  have S5 := hide (S4.out.get D5)
  have O5 := hide (O4.out.get D5)
  clear P E4 W5 D5 R4 S4 O4
  clear s0 s1 s2 s3
  have s0 := S5.out.bx.st4.c0
  have s1 := S5.out.bx.st4.c1
  have s2 := S5.out.bx.st4.c2
  have s3 := S5.out.bx.st4.c3
  have X2 := (R5.out.bx.set4 (.int .i64 0) (.int .u64 0) (.int .i64 0) (.int .i64 0)).st4
  have FIN := hide (E5.out.set (but_set4 w5 (w.heap.size + 1) (.int .i64 0) (.int .u64 0) (.int .i64 0) (.int .i64 0)) (by omega) R5.out.ne)
  obtain ⟨p0, p1, p2, p3, p4, p5, p6, p7, p8, p9, p10⟩ := R5.out.bx.st4
  have z0 := X2.c0
  have z1 := X2.c1
  have z2 := X2.c2
  have z3 := X2.c3
  clear X2
  go_wp2_with fail
  refine bodyPost_ret (v := .tuple #[.agg #[.int .i64 0, .int .u64 0, .int .i64 0, .int .i64 0], .int .u64 0, .int .i64 50]) (by simp [results, Tryd.f26, go_sem, z0, z1, z2, z3]) rfl ?_
  exact ⟨rfl, FIN.out.but⟩
end Go.Proofs.YtmddkinecplooaaDoor
