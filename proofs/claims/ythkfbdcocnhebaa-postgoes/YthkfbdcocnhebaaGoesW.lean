/-
  The walk of PostGoes.
-/
import Derived.Test.YthkfbdcocnhebaaK
namespace Go.Proofs.Ythkfbdcocnhebaa
open Go.RowKit
set_option linter.unusedVariables false
set_option linter.unusedSimpArgs false

theorem eql_func (w : World) (f : Nat) (c : Array Value) : (binOp .eql 39 (.func (.func f) #[] c) .nilFunc).run Try.prog w = .ok (.bool false) w := by
  have h : ∀ d, (Op.equalIn (d + 1) 39 (.func (.func f) #[] c) .nilFunc).run Try.prog w = .ok false w := fun d => by kernel_rfl
  have h2 : (Op.equal 39 (.func (.func f) #[] c) .nilFunc).run Try.prog w = .ok false w := h 9999
  simp [binOp, h2]
theorem HasU.keep {w w' : World} {a : Option Addr} {n c : Nat} {l : List Int} (h : HasU w a n c l) (hs : w.heap.size ≤ w'.heap.size) (hb : ∀ k, k < w.heap.size → (Value.slice a n c).ownBlock = some k → w'.heap[k]? = w.heap[k]?) : HasU w' a n c l := by
  refine ⟨h.hlen, h.le, h.capb, h.nil, fun hp => ?_, h.range⟩
  obtain ⟨b, off, e1, e2, e3⟩ := h.cells hp
  subst e1
  exact ⟨b, off, rfl, Nat.lt_of_lt_of_le e2 hs, fun i hi => (World.cell?_of_block (hb b e2 rfl)).trans (e3 i hi)⟩
theorem Ac.below {W0 W w : World} {p g : Nat} {l : List Int} (h : Ac W0 p g l W) (B : Below w.heap.size w W0) (hp : w.heap.size ≤ p) (hg : w.heap.size ≤ g) : Below w.heap.size w W :=
  ⟨h.os.trans B.os, h.tape.trans B.tape, h.output.trans B.output, Nat.le_trans B.size h.size, fun k hk => (h.block k (by have := B.size; omega) (by omega) (by omega)).trans (B.block k hk)⟩
theorem Ac.start {W : World} {p g : Nat} (hp : W.heap[p]? = some (.cells #[.slice (some ⟨g, 0, none⟩) 0 0] 23 (0, 0))) (hg : W.heap[g]? = some (.cells #[] 24 (0, 0))) : Ac W p g [] W :=
  ⟨rfl, rfl, rfl, Nat.le_refl _, fun _ _ _ _ => rfl, _, hp, ⟨rfl, .inr ⟨g, 0, #[], rfl, Nat.zero_le _, hg, Nat.le_refl _, Nat.zero_le _, rfl, rfl⟩⟩, fun k hk => by cases hk; exact .inl rfl⟩
theorem box_but {w w' : World} {q : Nat} {v : Value} {t : TypeId} (h : w.heap[q]? = some (.cells #[v] t (0, 0))) (hb : Below w.heap.size w w') : w'.heap[q]? = some (.cells #[v] t (0, 0)) := (hb.block q (Array.getElem?_eq_some_iff.1 h).1).trans h
/-- What lies behind the making of two empty lists, each in a box. -/
structure M7 (w6 : World) (q : Nat) (m : Int) (W7 : World) : Prop where
  sz : W7.heap.size = w6.heap.size + 4
  old : ∀ k, k < w6.heap.size → k ≠ q → W7.heap[k]? = w6.heap[k]?
  hq : W7.heap[q]? = some (.cells #[.int .i64 m] 3 (0, 0))
  n0 : W7.heap[w6.heap.size]? = some (.cells #[] 24 (0, 0))
  n1 : W7.heap[w6.heap.size + 1]? = some (.cells #[] 24 (0, 0))
  n2 : W7.heap[w6.heap.size + 2]? = some (.cells #[.slice (some ⟨w6.heap.size, 0, none⟩) 0 0] 23 (0, 0))
  n3 : W7.heap[w6.heap.size + 3]? = some (.cells #[.slice (some ⟨w6.heap.size + 1, 0, none⟩) 0 0] 23 (0, 0))
  os : W7.os = w6.os
  tape : W7.tape = w6.tape
  output : W7.output = w6.output
theorem mem7 (w6 : World) (q : Nat) (u : Value) (m : Int) (hq : w6.heap[q]? = some (.cells #[u] 3 (0, 0))) : M7 w6 q m (((((w6.setCell ⟨q, 0, none⟩ (.int .i64 m)).alloc (.cells #[] 24)).alloc (.cells #[] 24)).alloc (.cells #[.slice (some ⟨w6.heap.size, 0, none⟩) 0 0] 23)).alloc (.cells #[.slice (some ⟨w6.heap.size + 1, 0, none⟩) 0 0] 23)) := by
  have hql := (Array.getElem?_eq_some_iff.1 hq).1
  obtain ⟨wa, ha⟩ : ∃ wa, w6.setCell ⟨q, 0, none⟩ (.int .i64 m) = wa := ⟨_, rfl⟩
  have za : wa.heap.size = w6.heap.size := by rw [← ha]; simp [World.setCell]
  have olda : ∀ k, k ≠ q → wa.heap[k]? = w6.heap[k]? := fun k hk => by rw [← ha]; exact Below.heap_setCell _ ⟨q, 0, none⟩ _ k hk
  have qa : wa.heap[q]? = some (.cells #[.int .i64 m] 3 (0, 0)) := by rw [← ha]; exact heap_setCell_same w6 q 0 _ 3 _ hq
  have osa : wa.os = w6.os ∧ wa.tape = w6.tape ∧ wa.output = w6.output := by rw [← ha]; exact ⟨rfl, rfl, rfl⟩
  rw [ha]
  clear ha
  generalize hS : w6.heap.size = S at *
  obtain ⟨wb, hb⟩ : ∃ wb, wa.alloc (.cells #[] 24) = wb := ⟨_, rfl⟩
  have zb : wb.heap.size = S + 1 := by rw [← hb]; simp [za]
  have oldb : ∀ k, k < S → wb.heap[k]? = wa.heap[k]? := fun k hk => by rw [← hb]; exact Below.heap_alloc _ _ _ (by omega)
  have nb : wb.heap[S]? = some (.cells #[] 24 (0, 0)) := by rw [← hb, ← za]; exact heap_alloc_new _ _
  have osb : wb.os = wa.os ∧ wb.tape = wa.tape ∧ wb.output = wa.output := by rw [← hb]; exact ⟨rfl, rfl, rfl⟩
  rw [hb]
  clear hb
  obtain ⟨wc, hc⟩ : ∃ wc, wb.alloc (.cells #[] 24) = wc := ⟨_, rfl⟩
  have zc : wc.heap.size = S + 2 := by rw [← hc]; simp [zb]
  have oldc : ∀ k, k < S + 1 → wc.heap[k]? = wb.heap[k]? := fun k hk => by rw [← hc]; exact Below.heap_alloc _ _ _ (by omega)
  have nc : wc.heap[S + 1]? = some (.cells #[] 24 (0, 0)) := by rw [← hc, ← zb]; exact heap_alloc_new _ _
  have osc : wc.os = wb.os ∧ wc.tape = wb.tape ∧ wc.output = wb.output := by rw [← hc]; exact ⟨rfl, rfl, rfl⟩
  rw [hc]
  clear hc
  obtain ⟨wd, hd⟩ : ∃ wd, wc.alloc (.cells #[.slice (some ⟨S, 0, none⟩) 0 0] 23) = wd := ⟨_, rfl⟩
  have zd : wd.heap.size = S + 3 := by rw [← hd]; simp [zc]
  have oldd : ∀ k, k < S + 2 → wd.heap[k]? = wc.heap[k]? := fun k hk => by rw [← hd]; exact Below.heap_alloc _ _ _ (by omega)
  have nd : wd.heap[S + 2]? = some (.cells #[.slice (some ⟨S, 0, none⟩) 0 0] 23 (0, 0)) := by rw [← hd, ← zc]; exact heap_alloc_new _ _
  have osd : wd.os = wc.os ∧ wd.tape = wc.tape ∧ wd.output = wc.output := by rw [← hd]; exact ⟨rfl, rfl, rfl⟩
  rw [hd]
  clear hd
  obtain ⟨we, he⟩ : ∃ we, wd.alloc (.cells #[.slice (some ⟨S + 1, 0, none⟩) 0 0] 23) = we := ⟨_, rfl⟩
  have ze : we.heap.size = S + 4 := by rw [← he]; simp [zd]
  have olde : ∀ k, k < S + 3 → we.heap[k]? = wd.heap[k]? := fun k hk => by rw [← he]; exact Below.heap_alloc _ _ _ (by omega)
  have ne : we.heap[S + 3]? = some (.cells #[.slice (some ⟨S + 1, 0, none⟩) 0 0] 23 (0, 0)) := by rw [← he, ← zd]; exact heap_alloc_new _ _
  have ose : we.os = wd.os ∧ we.tape = wd.tape ∧ we.output = wd.output := by rw [← he]; exact ⟨rfl, rfl, rfl⟩
  rw [he]
  clear he
  have all : ∀ k, k < S → we.heap[k]? = wa.heap[k]? := fun k hk => (olde k (by omega)).trans ((oldd k (by omega)).trans ((oldc k (by omega)).trans (oldb k (by omega))))
  refine ⟨by rw [ze, hS], fun k hk hn => (all k (by omega)).trans (olda k hn), (all q (by omega)).trans qa, ?_, ?_, ?_, ?_, ?_, ?_, ?_⟩
  · rw [hS]; exact (olde S (by omega)).trans ((oldd S (by omega)).trans ((oldc S (by omega)).trans nb))
  · rw [hS]; exact (olde _ (by omega)).trans ((oldd _ (by omega)).trans nc)
  · rw [hS]; exact (olde _ (by omega)).trans nd
  · rw [hS]; exact ne
  · rw [ose.1, osd.1, osc.1, osb.1, osa.1]
  · rw [ose.2.1, osd.2.1, osc.2.1, osb.2.1, osa.2.1]
  · rw [ose.2.2, osd.2.2, osc.2.2, osb.2.2, osa.2.2]
set_option maxHeartbeats 4000000 in
set_option maxRecDepth 100000 in
theorem goesW (a0 : Option Addr) (len0 cap0 : Nat) (l0 : List Int) (s0 : Int) (w : World) (H0 : HasU w a0 len0 cap0 l0) (hs0 : -9223372036854775808 ≤ s0 ∧ s0 ≤ 9223372036854775807) :
    Calls Try.prog 4 #[.slice a0 len0 cap0, .int .i64 s0] w fun e w' => e = .returned (.bool true) ∧ Below w.heap.size w w' := by
  obtain ⟨m, hm, AM⟩ := among_ex s0 70 70 (by omega) hs0 (by omega) (by omega)
  obtain ⟨w1, hw1⟩ : ∃ w1, w.alloc (.cells #[.int .i64 s0] 3) = w1 := ⟨_, rfl⟩
  have hq := heap_alloc_new w (.cells #[.int .i64 s0] 3)
  have BB : Below w.heap.size w w1 := by rw [← hw1]; exact (Below.refl _ w).alloc (Nat.le_refl _) _
  rw [hw1] at hq
  replace H0 := hide (H0.kept BB (Nat.le_refl _))
  replace BB := hide BB
  replace hw1 := hide hw1
  replace hq := hide hq
  replace AM := hide AM
  go_enter Try.func4, Try.ntmps4
  go_wp2_with fail
  rw [hw1.out]
  refine (works_any w1).mono ?_
  rintro e w2 ⟨rfl, Q⟩
  replace H0 := hide (H0.out.kept Q (Nat.le_refl _))
  replace hq := hide (box_but hq.out Q)
  replace BB := hide (BB.out.trans (Q.mono BB.out.size))
  clear Q
  go_wp2_with fail
  refine (own_any w2 _ _ _ _ H0.out).mono ?_
  rintro e w3 ⟨a1, n1, c1, rfl, R1, Q, S1⟩
  have hq3 := (Array.getElem?_eq_some_iff.1 hq.out).1
  have hn1 : n1 ≤ 60 := by rw [← R1.hlen]; simp; omega
  replace R1 := hide R1
  replace hq := hide (box_but hq.out Q)
  replace BB := hide (BB.out.trans (Q.mono BB.out.size))
  generalize hl : l0.take 60 = l at *
  clear Q H0 hl
  have hS1 : Hid (∀ k, (Value.slice a1 n1 c1).ownBlock = some k → k ≠ w.heap.size) := fun k hk e => by have := S1 k hk; omega
  clear S1
  go_wp2_with fail
  refine (own_any w3 _ _ _ _ R1.out).mono ?_
  rintro e w4 ⟨a2, n2, c2, rfl, R2, Q, S2⟩
  have hl2 : l.take 60 = l := by rw [List.take_of_length_le]; rw [R1.out.hlen]; exact hn1
  rw [hl2] at R2
  have hn2 : n2 = n1 := by rw [← R2.hlen, R1.out.hlen]
  subst hn2
  replace R1 := hide (R1.out.kept Q (Nat.le_refl _))
  replace R2 := hide R2
  replace hq := hide (box_but hq.out Q)
  replace BB := hide (BB.out.trans (Q.mono BB.out.size))
  clear Q S2 hl2
  go_wp2_with fail
  refine (all_any w4 _ _ _ _ R2.out (by omega)).mono ?_
  rintro e w5 ⟨g, a3, c3, rfl, hg, R3, Q, hge, hbl, hS3⟩
  have hqlt := (Array.getElem?_eq_some_iff.1 hq.out).1
  replace R1 := hide (R1.out.kept Q (Nat.le_refl _))
  replace R3 := hide R3
  replace hq := hide (box_but hq.out Q)
  replace BB := hide (BB.out.trans (Q.mono BB.out.size))
  replace hbl := hide hbl
  replace hS3 := hide hS3
  have hgl := (Array.getElem?_eq_some_iff.1 hg).1
  replace hg := hide hg
  clear Q R2
  have cq := cell_row hq.out 0 (v := .int .i64 s0) rfl
  have hne := eql_func w5 61 #[.pointer (some ⟨g, 0, none⟩)]
  go_wp2_with fail
  refine (AM.out w5).mono ?_
  rintro e w6 ⟨rfl, rfl⟩
  clear AM
  have fq := frozen_of_row w6 w.heap.size 0 _ 3 hq.out
  go_wp2_with fail
  have M := mem7 w6 w.heap.size _ (m : Int) hq.out
  have hqh : w.heap.size < w6.heap.size := (Array.getElem?_eq_some_iff.1 hq.out).1
  have hb3 : 0 < n2 → ∀ k, (Value.slice a3 n2 c3).ownBlock = some k → k < w6.heap.size := fun hp k hk => hbl.out hp k hk
  have hb1 : 0 < n2 → ∀ k, (Value.slice a1 n2 c1).ownBlock = some k → k < w6.heap.size := fun hp k hk => by
    obtain ⟨b, off, e1, e2, _⟩ := R1.out.cells hp
    subst e1; cases hk; exact e2
  clear fq cq hbl
  generalize (((((w6.setCell ⟨w.heap.size, 0, none⟩ (.int .i64 (m : Int))).alloc (.cells #[] 24)).alloc (.cells #[] 24)).alloc (.cells #[.slice (some ⟨w6.heap.size, 0, none⟩) 0 0] 23)).alloc (.cells #[.slice (some ⟨w6.heap.size + 1, 0, none⟩) 0 0] 23)) = W7 at *
  have sz := M.sz
  have old := M.old
  have hq7 := M.hq
  have n1 := M.n1
  have n3 := M.n3
  have BB7 : Below w.heap.size w W7 := ⟨M.os.trans BB.out.os, M.tape.trans BB.out.tape, M.output.trans BB.out.output, by omega, fun k hk => (old k (by omega) (by omega)).trans (BB.out.block k hk)⟩
  have AC1 := Ac.start M.n2 M.n0
  clear M
  have A1 : HasU W7 a1 n2 c1 l := R1.out.keep (by omega) (fun k hk e => old k (by omega) (hS1.out k e))
  have A3 : HasU W7 a3 n2 c3 l := R3.out.keep (by omega) (fun k hk e => old k (by omega) (by have := hS3.out k e; omega))
  have hg7 : W7.heap[g]? = some (.cells #[.slice a3 n2 c3] 23 (0, 0)) := (old g (by omega) (by omega)).trans hg.out
  clear R1 R3 hq BB hg hS1 hS3 old
  generalize w6.heap.size = h at *
  have V1 := values27 W7 (h + 2) h (by omega) w.heap.size (m : Int) hq7 (by omega) (by omega) (by omega) g a3 n2 c3 l (by omega) hg7 A3 (by omega) (by omega) (fun hp k hk => by have := hb3 hp k hk; omega) AC1
  replace hb3 := hide hb3
  replace hb1 := hide hb1
  replace A1 := hide A1
  replace A3 := hide A3
  refine V1.mono ?_
  rintro e W8 ⟨⟨v8, rfl⟩, A8⟩
  clear V1
  have s8 := A8.size
  have hq8 := (A8.block w.heap.size (by omega) (by omega) (by omega)).trans hq7
  have hg8 := (A8.block g (by omega) (by omega) (by omega)).trans hg7
  have n18 := (A8.block (h + 1) (by omega) (by omega) (by omega)).trans n1
  have n38 := (A8.block (h + 3) (by omega) (by omega) (by omega)).trans n3
  have A18 : 0 < n2 → HasU W8 a1 n2 c1 l := fun hp => A1.out.keep s8 (fun k hk e => A8.block k hk (by have := hb1.out hp k e; omega) (by have := hb1.out hp k e; omega))
  have A38 : HasU W8 a3 n2 c3 l := by
    by_cases hp : 0 < n2
    · exact A3.out.keep s8 (fun k hk e => A8.block k hk (by have := hb3.out hp k e; omega) (by have := hb3.out hp k e; omega))
    · exact ⟨A3.out.hlen, A3.out.le, A3.out.capb, A3.out.nil, fun h => (hp h).elim, A3.out.range⟩
  have BB8 := A8.below BB7 (by omega) (by omega)
  obtain ⟨v6, x6, o6, k6⟩ := A8.box
  have hr6 : ∀ x ∈ l.take (min n2 ((m : Int).toNat + 1)), 0 ≤ x ∧ x < 18446744073709551616 := fun x hx => A1.out.range x (List.mem_of_mem_take hx)
  have o6' : W8.ownsRow 0 24 1 v6 (min n2 (m + 1)) ((l.take (min n2 (m + 1))).map (Value.int .u64)) := by
    have e : (l.take (min n2 ((m : Int).toNat + 1))).length = min n2 (m + 1) := by rw [List.length_take, A1.out.hlen, Int.toNat_natCast]; omega
    rw [e, Int.toNat_natCast] at o6
    exact o6
  rw [Int.toNat_natCast] at hr6
  obtain ⟨a6, c6, rfl, H6⟩ := hasU_of_owns o6' hr6
  have k6' : ∀ k, (Value.slice a6 (min n2 (m + 1)) c6).ownBlock = some k → k ≠ h + 3 ∧ k ≠ h + 1 := fun k hk => by rcases k6 k hk with e | e <;> omega
  have V2 := values28 W8 (h + 3) (h + 1) (by omega) g a3 n2 c3 l (by omega) hg8 A38 (by omega) (by omega) (fun hp k hk => by have := hb3.out hp k hk; omega) (Ac.start n38 n18)
  have A18' : HasU W8 a1 n2 c1 l := by
    by_cases hp : 0 < n2
    · exact A18 hp
    · exact ⟨A1.out.hlen, A1.out.le, A1.out.capb, A1.out.nil, fun h => (hp h).elim, A1.out.range⟩
  replace A18' := hide A18'
  replace H6 := hide H6
  replace x6 := hide x6
  replace BB8 := hide BB8
  replace k6' := hide k6'
  clear A8 o6 o6' hr6 A1 A3 A18 BB7 hq7 hg7 n1 n3 n18 n38 A38 hg8 k6
  go_wp2_with fail
  refine V2.mono ?_
  rintro e W9 ⟨⟨v9, rfl⟩, A9⟩
  clear V2
  have s9 := A9.size
  have hq9 := (A9.block w.heap.size (by omega) (by omega) (by omega)).trans hq8
  have x69 := (A9.block (h + 2) (by omega) (by omega) (by omega)).trans x6.out
  have H69 : HasU W9 a6 (min n2 (m + 1)) c6 (l.take (min n2 (m + 1))) := H6.out.keep s9 (fun k hk e => A9.block k hk (k6'.out k e).1 (k6'.out k e).2)
  have A19 : HasU W9 a1 n2 c1 l := by
    by_cases hp : 0 < n2
    · exact A18'.out.keep s9 (fun k hk e => A9.block k hk (by have := hb1.out hp k e; omega) (by have := hb1.out hp k e; omega))
    · have A := A18'.out
      exact ⟨A.hlen, A.le, A.capb, A.nil, fun h => (hp h).elim, A.range⟩
  have BB9 := A9.below BB8.out (by omega) (by omega)
  obtain ⟨v7, x7, o7, _⟩ := A9.box
  have hlen9 := A19.hlen
  rw [hlen9] at o7
  obtain ⟨a7, c7, rfl, H7⟩ := hasU_of_owns o7 A19.range
  have hle := A19.le
  have hcb := A19.capb
  have e1 : (if IntKind.i64.wrap ((m : Int) + 1) < (n2 : Int) then IntKind.i64.wrap ((m : Int) + 1) else (n2 : Int)) = ((min n2 (m + 1) : Nat) : Int) := by
    have : IntKind.i64.wrap ((m : Int) + 1) = (m : Int) + 1 := by rw [IntKind.wrap_i64]; omega
    rw [this]
    split <;> omega
  have hcq := hide (cell_row hq9 0 (v := .int .i64 (m : Int)) rfl)
  have hc6 := hide (cell_row x69 0 (v := .slice a6 (min n2 (m + 1)) c6) rfl)
  have e1h := hide e1
  have D9 : Below W9.heap.size W9 W9.drew := below_drew (Below.refl _ _)
  have SM1 := hide (same_yes (H69.kept D9 (Nat.le_refl _)) ((A19.kept D9 (Nat.le_refl _)).front (min n2 (m + 1)) (by omega)) (by omega) rfl)
  have SM2 : Hid (∀ w4, Below W9.heap.size W9 w4 → Calls Try.prog 14 #[.slice a7 n2 c7, .slice a1 n2 c1] w4 fun e w' => e = .returned (.bool true) ∧ Below w4.heap.size w4 w') := fun w4 hB => same_yes (H7.kept hB (Nat.le_refl _)) (A19.kept hB (Nat.le_refl _)) (by omega) rfl
  replace BB9 := hide BB9
  replace x7 := hide x7
  replace D9 := hide D9
  clear A9 H69 H7 A19 o7 hq9 x69 hq8 x6 H6 A18' BB8 e1 hb1 hb3
  go_wp2_with fail
  refine reg4_11 W9 w.heap.size (h + 1 + 1) (h + 1 + 1 + 1) a1 n2 c1 (min n2 (m + 1)) (m : Int) (.slice a6 (min n2 (m + 1)) c6) (.slice a7 n2 c7) (by omega) e1h.out (by omega) hcq.out hc6.out _ _ _ _ _ _ _ _ _ _ _ _ _ _ _ _ _ _ _ _ _ _ _ _ _ _ _ _ _ _ _ _ _ _ _ _ _ _ ?_
  refine SM1.out.mono ?_
  rintro e w4 ⟨rfl, B4⟩
  have B4' : Below W9.heap.size W9 w4 := D9.out.trans B4
  refine ⟨rfl, (cell_row (box_but x7.out B4') 0 rfl : w4.cell? ⟨h + 3, 0, none⟩ = some (.slice a7 n2 c7)), (SM2.out w4 B4').mono ?_⟩
  rintro e w5 ⟨rfl, B5⟩
  have B5' : Below w.heap.size w w5 := BB9.out.trans ((B4'.trans (B5.mono B4'.size)).mono BB9.out.size)
  refine ⟨rfl, ?_⟩
  replace B5' := hide B5'
  clear SM1 SM2 B4 B5 B4'
  go_wp2_with fail
  go_ret
  exact ⟨rfl, B5'.out⟩
end Go.Proofs.Ythkfbdcocnhebaa
