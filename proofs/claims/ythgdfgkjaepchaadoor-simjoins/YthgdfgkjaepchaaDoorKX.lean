/-
  The programs of patterns: where they go, their sets; Match, Full, Ends of them. cut: a pattern that is not too great. works: the chapter's examples. some: a pattern, cut, and its program; whether a pattern's program accepts a text.
-/
import Derived.Test.YthgdfgkjaepchaaDoorKN
import Derived.Test.YthgdfgkjaepchaaDoorDR
import Derived.Test.YthgdfgkjaepchaaDoorST
import Derived.Test.YthgdfgkjaepchaaDoorFD
namespace Go.Proofs.YthgdfgkjaepchaaDoor
open Go.RowKit Go.Shelf
set_option linter.unusedVariables false
set_option linter.unusedSimpArgs false

/-- All sets of a pattern are sets of bytes. -/
def okF : Fo → Prop
  | .nil => True
  | .cons n k r => OkS n.s ∧ okF k ∧ okF r
def okT (t : Tr) : Prop := OkS t.1.s ∧ okF t.2
def StOk (c : Cd) : Prop := ∀ a m, ∀ q ∈ c.put a m, OkS q.s
theorem sq_ok : ∀ (l : List Cd), (∀ c ∈ l, StOk c) → ∀ a m, ∀ q ∈ sqP l a m, OkS q.s
  | [], _, a, m, q, hq => by rw [List.mem_singleton.1 hq]; exact noSet_ok
  | [c], h, a, m, q, hq => h c (by simp) a m q hq
  | c :: d :: r, h, a, m, q, hq => by
    rcases List.mem_append.1 hq with hq | hq
    · exact h c (by simp) _ _ q hq
    · exact sq_ok (d :: r) (fun x hx => h x (by simp [List.mem_cons.1 hx])) _ _ q hq
theorem ch_ok : ∀ (l : List Cd), (∀ c ∈ l, StOk c) → ∀ a m, ∀ q ∈ chP l a m, OkS q.s
  | [], _, a, m, q, hq => by rw [List.mem_singleton.1 hq]; exact noSet_ok
  | [c], h, a, m, q, hq => h c (by simp) a m q hq
  | c :: d :: r, h, a, m, q, hq => by
    rcases List.mem_cons.1 hq with rfl | hq
    · exact noSet_ok
    · rcases List.mem_append.1 hq with hq | hq
      · exact h c (by simp) _ _ q hq
      · exact ch_ok (d :: r) (fun x hx => h x (by simp [List.mem_cons.1 hx])) _ _ q hq
theorem cdN_ok (n : Nd) (hn : OkS n.s) (l : List Cd) (h : ∀ c ∈ l, StOk c) : StOk (cdN n l) := by
  unfold cdN
  split
  · intro a m q hq
    rw [List.mem_singleton.1 hq]; exact hn
  · split
    · have hc : StOk (l.headD (sgl 4 noSet)) := by
        cases l with
        | nil => intro a m q hq; rw [List.mem_singleton.1 hq]; exact noSet_ok
        | cons c r => exact h c (by simp)
      generalize l.headD (sgl 4 noSet) = c at hc
      intro a m q hq
      refine sq_ok (rpL c n.mn.toNat n.mx m) (fun x hx => ?_) a m q hq
      unfold rpL at hx
      rcases List.mem_append.1 hx with hx | hx
      · rw [(List.mem_replicate.1 hx).2]; exact hc
      · split at hx
        · rw [List.mem_singleton.1 hx]
          intro a m q hq
          rcases List.mem_cons.1 hq with rfl | hq
          · exact noSet_ok
          · exact hc _ _ q hq
        · rw [(List.mem_replicate.1 hx).2]
          intro a m q hq
          rcases List.mem_cons.1 hq with rfl | hq
          · exact noSet_ok
          · exact hc _ _ q hq
    · split
      · exact fun a m q hq => ch_ok l h a m q hq
      · exact fun a m q hq => sq_ok l h a m q hq
theorem fo_ok : ∀ f : Fo, okF f → ∀ c ∈ f.cds, StOk c
  | .nil, _, c, hc => by cases hc
  | .cons n k r, ⟨h1, h2, h3⟩, c, hc => by
    rcases List.mem_cons.1 hc with rfl | hc
    · exact cdN_ok n h1 _ (fo_ok k h2)
    · exact fo_ok r h3 c hc
theorem prg_oks (t : Tr) (h : okT t) : ∀ q ∈ (prg t).put 0 0, OkS q.s := fun q hq => by
  rw [prg_put] at hq
  rcases List.mem_append.1 hq with hq | hq
  · exact cdN_ok t.1 h.1 _ (fo_ok t.2 h.2) _ _ q hq
  · rw [List.mem_singleton.1 hq]; exact noSet_ok
theorem tgt_in2 {lo hi m : Nat} {z : Int} (h : Tgt (fun _ => False) lo hi m z) (hm : m ≤ hi) : 0 ≤ z ∧ z ≤ (hi : Int) := by
  rcases h with h | h | h
  · omega
  · omega
  · exact h.elim
theorem prg_go (t : Tr) (hf : fitT t) : GoL ((prg t).put 0 0) := fun q hq => by
  have hl := (prg t).len 0 0
  have hN := cdT_nice t hf
  rw [hl, prg_n]
  rw [prg_put] at hq
  rcases List.mem_append.1 hq with hq | hq
  · have := hN.ops 0 (cdT t).n q hq
    rw [Nat.zero_add] at this
    obtain ⟨h1, h2⟩ := this
    have hx2 := tgt_in2 h2 (Nat.le_refl _)
    refine ⟨fun _ => by omega, fun h => ?_⟩
    rcases h1 with ⟨h3, _⟩ | ⟨h3, _⟩ | ⟨_, _, hy⟩
    · omega
    · omega
    · have := tgt_in2 hy (Nat.le_refl _); omega
  · rw [List.mem_singleton.1 hq]
    simp
theorem prg_len (t : Tr) : ((prg t).put 0 0).length = (prg t).n := (prg t).len 0 0
theorem prg_stn (t : Tr) (hf : fitT t) (s : List Nat) : accS ((prg t).put 0 0) (stn ((prg t).put 0 0) s) ↔ meT t s := (stn_acc _ s).trans (prg_acc t hf s)
theorem chkS_0 (t : Tr) (hf : fitT t) (hn : (prg t).n ≤ 2048) (s : ByteArray) (hs : s.size ≤ 65536) : chkS ((prg t).put 0 0) s = 0 := by
  unfold chkS
  rw [if_pos (prg_chk t hf hn), if_neg (by omega)]
theorem RI.hs2 {w w' : World} {v : Value} {L : List Ins} (h : RI w v L) (hk : ∀ k, v.ownBlock = some k → w'.heap[k]? = w.heap[k]?) (hs : w.heap.size ≤ w'.heap.size) : ∃ a c, v = .slice a L.length c ∧ HsI w' (fun k => k < w'.heap.size) a L := by
  obtain ⟨a, c, e, H⟩ := h.hs
  exact ⟨a, c, e, H.kept (fun k hy _ => hk k hy) (fun k hk _ => by omega)⟩
/-- Match of a pattern's program. -/
theorem match_T (t : Tr) (hf : fitT t) (ho : okT t) (hn : (prg t).n ≤ 2048) (v : Value) (s : ByteArray) (hs : s.size ≤ 65536) (w : World) (hT : Tab w) (hR : RI w v ((prg t).put 0 0)) :
    Calls Tryd.prog 15 #[v, .string s] w fun e w' => Below w.heap.size w w' ∧ ∃ x : Bool, e = .returned (.tuple #[.bool x, .int .i64 0]) ∧ (x = true ↔ meT t (bys s)) := by
  obtain ⟨a, c, rfl, H⟩ := hR.hs2 (w' := w) (fun _ _ => rfl) (Nat.le_refl _)
  have hp := (prg t).pos
  refine (match_any a c _ s w H hT (prg_go t hf) (prg_oks t ho) (chkS_0 t hf hn s hs) (by rw [prg_len]; omega) (by rw [prg_len]; exact hn) hs).mono ?_
  rintro e w' ⟨B, x, rfl, hx⟩
  exact ⟨B, x, rfl, hx.trans (prg_stn t hf (bys s))⟩
set_option maxHeartbeats 4000000 in
set_option maxRecDepth 100000 in
theorem full_ok (p s : ByteArray) (t : Tr) (hp : parseM p = .ok t) (hps : p.size ≤ 256) (ho : okT t) (hn : (prg t).n ≤ 2048) (hs : s.size ≤ 65536) (w : World) (hT : Tab w) :
    Calls Tryd.prog 26 #[.string p, .string s] w fun e w' => Below w.heap.size w w' ∧ ∃ x : Bool, e = .returned (.tuple #[.bool x, .int .i64 0, .int .i64 0]) ∧ (x = true ↔ meT t (bys s)) := by
  have hg := parse_good p
  rw [hp] at hg
  obtain ⟨hf, hz, hd⟩ := hg
  replace hf := hide hf
  replace ho := hide ho
  have hT' := hide hT
  go_enter Tryd.func26, Tryd.ntmps26
  go_wp2_with fail
  refine (parse_any p w hT).mono ?_
  rintro e w1 ⟨B1, ⟨h1, _⟩ | ⟨_, ⟨q, h2, _⟩ | ⟨x, t', h2, rfl, T⟩⟩⟩
  · omega
  · rw [hp] at h2; cases h2
  · rw [hp] at h2
    cases h2
    obtain ⟨va, vn, vc, rfl⟩ := T.val
    have H := St.start Nope w1
    replace T := hide T
    clear hT
    go_wp2_with (first | (with_reducible refine at_alloc 27 ?_; refine wl_alloc28 H ?_; clear H; intro g1 w' H q1 q2) | (with_reducible refine at_store 27 ?_; refine wl_store28 0 H rfl rfl rfl rfl ?_; clear H; intro w' H) | ((with_reducible refine at_load 27 ?_); refine wl_load28 0 H rfl rfl ?_))
    have F1 := H.below
    rename_i w2 _ _
    refine (make_ok t _ _ _ (T.out.kept (fun k _ hk => F1.block k hk)) hf.out (by omega) (by omega)).mono ?_
    rintro e w3 ⟨B3, ⟨h3, _⟩ | ⟨_, v, rfl, R3, _⟩⟩
    · omega
    · replace H := H.call B3 (Nat.le_refl _)
      have F3 := H.below
      have hs1 := B1.size
      have BB : Below w.heap.size w w3 := B1.trans (F3.mono hs1)
      have hm := hide (match_T t hf.out ho.out hn v s hs w3 (hT'.out.below BB) R3)
      replace BB := hide BB
      replace F3 := hide F3
      replace R3 := hide R3
      clear H
      go_wp2_with fail
      refine hm.out.mono ?_
      rintro e w4 ⟨B4, x, rfl, hx⟩
      replace hx := hide hx
      go_wp2_with fail
      go_ret3
      exact ⟨BB.out.trans (B4.mono BB.out.size), x, rfl, hx.out⟩
set_option maxHeartbeats 1000000 in
theorem ends_box (al : Option Addr) (m c : Nat) (s : ByteArray) (fr : Nat) (w : World) : Calls Tryd.prog 50 #[.slice al m c, .string s, .int .i64 (fr : Int)] w fun e w' => ∃ gl gs gf, e = .returned (.func (.func 82) #[] #[.pointer (some ⟨gl, 0, none⟩), .pointer (some ⟨gf, 0, none⟩), .pointer (some ⟨gs, 0, none⟩)]) ∧ w'.heap[gl]? = some (.cells #[.slice al m c] 29 (0, 0)) ∧ w'.heap[gs]? = some (.cells #[.string s] 9 (0, 0)) ∧ w'.heap[gf]? = some (.cells #[.int .i64 (fr : Int)] 3 (0, 0)) ∧ Below w.heap.size w w' := by
  have hmf : ∀ (fn : Fn) (first cap : Array Value) (w : World), (Instr.makeFunc fn first cap).run Tryd.prog w = .ok (.func fn first cap) w := fun _ _ _ _ => rfl
  have H := (((St.start Nope w).alloc 29 #[.slice al m c]).alloc 9 #[.string s]).alloc 3 #[.int .i64 (fr : Int)]
  have g0 := hide (H.get 0 rfl)
  have g1 := hide (H.get 1 rfl)
  have g2 := hide (H.get 2 rfl)
  have hb := hide H.below
  clear H
  go_enter Tryd.func50, Tryd.ntmps50
  go_wp2_with fail
  go_ret
  exact ⟨_, _, _, rfl, by simpa using g2.out, by simpa using g1.out, by simpa using g0.out, hb.out⟩
set_option maxHeartbeats 2000000 in
theorem ends_any (ad : Option Addr) (c : Nat) (L : List Ins) (s : ByteArray) (fr : Nat) (w : World) (hL : HsI w (fun k => k < w.heap.size) ad L) (hT : Tab w) (hG : GoL L) (hok : ∀ q ∈ L, OkS q.s) (hc : chkS L s = 0) (h0 : 0 < L.length) (hlen : L.length ≤ 2048) (hs : s.size ≤ 65536) (hfr : fr ≤ s.size) :
    Calls Tryd.prog 27 #[.slice ad L.length c, .string s, .int .i64 (fr : Int)] w fun e w' => Below w.heap.size w w' ∧ ∃ v, e = .returned (.tuple #[v, .int .i64 0]) ∧ w'.ownsRow w.heap.size 3 1 v (eL L s fr (s.size + 1)).length (cellsI (eL L s fr (s.size + 1))) := by
  have H1 := hide (check_sim ad c L s w hL)
  rw [hc] at H1
  have i1 : ¬ ((fr : Int) < 0) := by omega
  have i2 : ¬ ((s.size : Int) < (fr : Int)) := by omega
  have i3 : (fr : Int) ≤ (s.size : Int) := by omega
  have hL' := hide hL
  replace hT := hide hT
  replace hG := hide hG
  replace hok := hide hok
  clear hc hL
  go_enter Tryd.func27, Tryd.ntmps27
  go_wp2_with fail
  refine H1.out.mono ?_
  rintro e w1 ⟨rfl, B1⟩
  replace B1 := hide B1
  go_wp2_with fail
  refine (ends_box ad L.length c s fr w1).mono ?_
  rintro e w2 ⟨gl, gs, gf, rfl, f1, f2, f3, B2⟩
  have hs1 := B1.out.size
  have B12 : Below w.heap.size w w2 := B1.out.trans (B2.mono hs1)
  have hL2 : HsI w2 (fun k => k < w2.heap.size) ad L := hL'.out.kept (fun k _ hk => B12.block k hk) (fun k hk h => by have := B12.size; omega)
  have hcl := hide (collect_any 82 _ w2.heap.size (s.size + 2) (by omega) _ w2 (Nat.le_refl _) (enters_of Tryd.func82 (by kernel_rfl) rfl) (ends_stops 7 gl gf gs ad c L s fr w2 f1 f3 f2 hL2 (hT.out.below B12) hG.out hok.out h0 hlen hs hfr))
  replace f1 := hide f1
  replace f2 := hide f2
  replace f3 := hide f3
  replace B12 := hide B12
  replace B2 := hide B2
  replace hL2 := hide hL2
  go_wp2_with fail
  refine hcl.out.mono ?_
  rintro e w3 ⟨v, xs, rfl, rfl, ho, B3⟩
  have hs2 := B12.out.size
  have ho2 : w3.ownsRow w.heap.size 3 1 v (eL L s fr (s.size + 1)).length (cellsI (eL L s fr (s.size + 1))) := by
    refine ⟨ho.1, ?_⟩
    rcases ho.2 with h | ⟨g, cap, cur, q0, q1, q2⟩
    · exact .inl h
    · exact .inr ⟨g, cap, cur, q0, by omega, q2⟩
  replace ho2 := hide ho2
  replace B3 := hide B3
  clear ho
  go_wp2_with fail
  go_ret2
  exact ⟨B12.out.trans (B3.out.mono hs2), v, rfl, ho2.out⟩
end Go.Proofs.YthgdfgkjaepchaaDoor
namespace Go.Proofs.YthgdfgkjaepchaaDoor
open Go.RowKit
set_option linter.unusedVariables false
set_option linter.unusedSimpArgs false

/-- append of a pattern, as it runs. -/
theorem run_snoc {w : World} {base m : Nat} {v : Value} {f : Fo} {t : Tr} {u : Value} (R : Rw w base v f) (T : TrV w (fun b => m ≤ b) (reV t.1.k t.1.s u t.1.mn t.1.mx) t) (hm : ∀ k, v.ownBlock = some k → k < m) (hbm : base ≤ m) (hmw : m ≤ w.heap.size) (hf : f.len ≤ 1000000) :
    ∃ a2 n2 c2 w2, (Builtin.append_ #[25, 25] 25 #[v, .slice (some ⟨w.heap.size, 0, none⟩) 1 1]).run Tryd.prog (w.alloc (.cells (reA t.1.k t.1.s u t.1.mn t.1.mx) 27)) = .ok (.slice a2 n2 c2) w2 ∧ Rw w2 base (.slice a2 n2 c2) (f.snoc t) ∧ (w.alloc (.cells (reA t.1.k t.1.s u t.1.mn t.1.mx) 27)).grownBy w2 v.ownBlock := by
  obtain ⟨i0, hi, hz0, hz1, hz2⟩ := info28
  obtain ⟨u', zs, hu', o, p, kd⟩ := T
  obtain rfl : u = u' := by
    simp only [reV, reA, Value.agg.injEq] at hu'
    have := congrArg (fun a => a[5]?) hu'
    simpa using this
  obtain ⟨xs, ro, rk⟩ := R
  obtain ⟨ua, uc, hu, _, _⟩ := owns8_val o
  have hu1 : u.oneCell' = true := by rw [hu]; rfl
  generalize hA : reA t.1.k t.1.s u t.1.mn t.1.mx = A at *
  have hAl : A.toList.length = 8 := by rw [← hA]; rfl
  have hold : ∀ b, b < w.heap.size → (w.alloc (.cells A 27)).heap[b]? = w.heap[b]? := fun b hb => Below.heap_alloc _ _ _ hb
  obtain ⟨v2, w2, h1, h2, h3, _, h5⟩ := run_append_own_at (P := Tryd.prog) (w.alloc (.cells A 27)) base 25 25 27 i0 (reV 0 noSet (.slice none 0 0) 0 0) 8 80 Tryd.underlying25 hi hz0 hz1 hz2 rfl (by decide) v f.len xs (owns8_of_block ro (fun b hb => hold b (owns8_lt ro hb).2)) ⟨w.heap.size, 0, none⟩ 1 1 A.toList (by omega) (fun j v' hj => by
    rw [add_plain, Nat.zero_add, cell_of_row _ _ _ _ _ _ (heap_alloc_new w _)]
    simpa using hj) (by rw [← hA]; exact reA_one hu1) (by unfold maxLen; omega) (by omega) (by simp; omega)
  obtain ⟨a2, c2, hv2, _, _⟩ := owns8_val h2
  subst hv2
  refine ⟨a2, f.len + 1, c2, w2, h1, ⟨xs ++ A.toList, by rw [Fo.len_snoc]; exact h2, ?_⟩, h3⟩
  have keep : ∀ b, b < w.heap.size → v.ownBlock ≠ some b → w2.heap[b]? = w.heap[b]? := fun b hb hn => by
    rw [h3.block b (by simp; omega) (fun e => hn e.symm), hold b hb]
  have ne : ∀ b, b < w.heap.size → v.ownBlock ≠ some b → (Value.slice a2 (f.len + 1) c2).ownBlock ≠ some b := fun b hb hn e => by
    rcases h5 with h | h
    · exact hn (by rw [← h, e])
    · rw [h] at e
      have : w.heap.size + 1 = b := by simpa using e
      omega
  have far : ∀ b, m ≤ b → v.ownBlock ≠ some b := fun b hb e => by have := hm b e; omega
  have step : ∀ {ff : Fo} {ys : List Value} {PP : Nat → Prop}, Kd w PP ff ys → (∀ b, PP b → base ≤ b ∧ v.ownBlock ≠ some b) → Kd w2 (fun b => base ≤ b ∧ (Value.slice a2 (f.len + 1) c2).ownBlock ≠ some b) ff ys := fun hk hP =>
    ((hk.mono (P' := fun b => (base ≤ b ∧ (Value.slice a2 (f.len + 1) c2).ownBlock ≠ some b) ∧ v.ownBlock ≠ some b) (fun b hb hp => ⟨⟨(hP b hp).1, ne b hb (hP b hp).2⟩, (hP b hp).2⟩)).kept (w' := w2) (fun b hp hl => keep b hl hp.2)).mono (fun b _ hp => hp.1)
  have o2 := owns8_of_block (w' := w2) o (fun b hb => keep b (owns8_lt o hb).2 (far b (p b hb)))
  rw [← hA]
  exact Kd.snoc o2 (fun b hb => ⟨by have := p b hb; omega, ne b (owns8_lt o hb).2 (far b (p b hb))⟩) (step kd (fun b hb => ⟨by omega, far b hb⟩)) (step rk (fun b hb => hb))
theorem st25 {S : Nat → Prop} {w0 w : World} {L : List Ent} (H : St S w0 w L) (i : Nat) {g : Nat} {k : Int} {s : S4} {l : Value} {mn mx : Int} (h : L[i]? = some (true, g, 27, reA k s l mn mx)) (a : Option Addr) (n c : Nat) : (storeVar 25 ⟨g, 5, none⟩ (.slice a n c)).run Tryd.prog w = .ok () (w.setCell ⟨g, 5, none⟩ (.slice a n c)) := by
  have hc := H.cell i 5 h (v := l) rfl
  have hf := H.fz i 5 h
  have e : (storeCells ⟨g, 5, none⟩ [.slice a n c]).run Tryd.prog w = .ok () (w.setCell ⟨g, 5, none⟩ (.slice a n c)) := by simp [storeCells, go_sem, run_store Tryd.prog w _ (.slice a n c) _ rfl, stored, hc, hf]
  have e4 : (Value.slice a n c).cells = #[.slice a n c] := rfl
  unfold storeVar
  simp only [Sem.run_bind, one26, Result.andThen_ok, e4]
  simpa using e
/-- What can be read of a pattern that came in, at any depth. -/
theorem argR_cases {w0 : World} : ∀ {d : Nat} {cs : List Value}, ArgR w0 d cs → ∃ (k : Int) (s : S4) (a : Option Addr) (n c : Nat) (mn mx : Int), cs = (reA k s (.slice a n c) mn mx).toList ∧ OkS s ∧ ∀ d', d = d' + 1 → n ≤ maxLen ∧ (0 < n → ∃ b off, a = some ⟨b, off, none⟩ ∧ b < w0.heap.size ∧ ∀ i, i < n → ∃ cs', cs'.length = 8 ∧ (∀ j u, cs'[j]? = some u → w0.cell? ⟨b, off + i * 8 + j, none⟩ = some u) ∧ ArgR w0 d' cs')
  | 0, cs, ⟨k, s, a, n, c, mn, mx, e, ho⟩ => ⟨k, s, a, n, c, mn, mx, e, ho, fun d' h => by omega⟩
  | d + 1, cs, ⟨k, s, a, n, c, mn, mx, e, ho, h1, h2⟩ => ⟨k, s, a, n, c, mn, mx, e, ho, fun d' h => by
      obtain rfl : d = d' := by omega
      exact ⟨h1, h2⟩⟩
theorem okF_snoc : ∀ {f : Fo} {t : Tr}, okF f → okT t → okF (f.snoc t)
  | .nil, t, _, h => ⟨h.1, h.2, trivial⟩
  | .cons n k r, t, ⟨h1, h2, h3⟩, h => ⟨h1, h2, okF_snoc h3 h⟩
/-- How cut ends. -/
def CutP (w : World) (gb β : Nat) (e : Ending) (w' : World) : Prop := ∃ t u β', e = .returned (reV t.1.k t.1.s u t.1.mn t.1.mx) ∧ TrV w' (fun b => w.heap.size ≤ b) (reV t.1.k t.1.s u t.1.mn t.1.mx) t ∧ w'.heap[gb]? = some (.cells #[.int .i64 ((β' : Nat) : Int)] 3 (0, 0)) ∧ β' + szT t = β ∧ But (fun k => k = gb) w w' ∧ okT t
set_option maxHeartbeats 4000000 in
set_option maxRecDepth 100000 in
theorem cut_step (w0 : World) (gb : Nat) (hgb : w0.heap.size ≤ gb) (d : Nat) (ih : ∀ d', d = d' + 1 → d ≤ 130 → ∀ (cs : List Value) (β : Nat) (w : World), ArgR w0 d' cs → β + 1 ≤ 100 → (∀ k, k < w0.heap.size → w.heap[k]? = w0.heap[k]?) → w.heap[gb]? = some (.cells #[.int .i64 ((β + 1 : Nat) : Int)] 3 (0, 0)) →
    Calls Tryd.prog 29 #[.agg cs.toArray, .int .i64 (d' : Int), .pointer (some ⟨gb, 0, none⟩)] w (CutP w gb (β + 1))) : d ≤ 130 → ∀ (cs : List Value) (β : Nat) (w : World), ArgR w0 d cs → β + 1 ≤ 100 → (∀ k, k < w0.heap.size → w.heap[k]? = w0.heap[k]?) → w.heap[gb]? = some (.cells #[.int .i64 ((β + 1 : Nat) : Int)] 3 (0, 0)) →
    Calls Tryd.prog 29 #[.agg cs.toArray, .int .i64 (d : Int), .pointer (some ⟨gb, 0, none⟩)] w (CutP w gb (β + 1)) := by
  intro hd cs β w hA hβ hw0 hbx
  obtain ⟨k, s, a, n, c, mn, mx, rfl, hoS, hkid⟩ := argR_cases hA
  replace hoS := hide hoS
  show Calls Tryd.prog 29 #[reV k s (.slice a n c) mn mx, .int .i64 (d : Int), .pointer (some ⟨gb, 0, none⟩)] w _
  have lgb : gb < w.heap.size := (Array.getElem?_eq_some_iff.1 hbx).1
  have H : St (fun k => k = gb) w w [(true, gb, 3, #[.int .i64 ((β + 1 : Nat) : Int)])] := ⟨But.refl _ _, fun x hx => by rw [List.mem_singleton.1 hx]; exact hbx, fun x hx _ _ => by rw [List.mem_singleton.1 hx], by simp⟩
  obtain ⟨b1, hb1⟩ : ∃ b1 : Int, b1 = ((β + 1 : Nat) : Int) := ⟨_, rfl⟩
  rw [← hb1] at H
  have hb2 : b1 - 1 = (β : Int) := by omega
  have hb3 : IntKind.i64.wrap (β : Int) = (β : Int) := by rw [IntKind.wrap_i64]; omega
  have hb4 : wrap64 (β : Int) = (β : Int) := by unfold wrap64; omega
  have hβ2 : β ≤ 100 := by omega
  have hw0' := hide hw0
  replace hkid := hide hkid
  replace ih := hide ih
  replace hbx := hide hbx
  replace hb1 := hide hb1
  clear hA hw0
  have m0 := trivial
  go_enter Tryd.func29, Tryd.ntmps29
  go_wp2_with (first | ((with_reducible refine at_box 27 ?_); refine wl_box28 H rfl ?_; clear H; intro g3 w1 H q1 q2) | ((with_reducible refine at_alloc 27 ?_); clear m0; refine wl_alloc28 H ?_; clear H; intro g6 w1 H q5 q6) | ((with_reducible refine at_alloc 27 ?_); refine wl_alloc28 H ?_; clear H; intro g7 w2 H q3 q4) | ((with_reducible refine at_load 3 ?_); refine wl_ld3 2 0 H (v := .int .i64 b1) rfl rfl rfl ?_) | ((with_reducible refine at_store 3 ?_); refine wl_store1 2 0 3 (v := .int .i64 (β : Int)) H rfl rfl rfl (by simp) one3 rfl ?_; clear H; intro w3 H) | ((with_reducible refine at_load 27 ?_); refine wl_load28 1 H rfl rfl ?_) | ((with_reducible refine at_store 27 ?_); refine wl_store28 0 H rfl rfl rfl rfl ?_; clear H; intro w4 H) | ((with_reducible refine at_store 25 ?_); refine wl_setL 0 H rfl rfl rfl ?_; clear H; intro w5 H))
  have HL : Hid (St (fun k => k = gb) w w5 [(true, g7, 27, reA k s (.slice none 0 0) mn mx), (true, g6, 27, reA 0 noSet (.slice none 0 0) 0 0), (true, g3, 27, reA k s (.slice a n c) mn mx), (true, gb, 3, #[.int .i64 ((β : Nat) : Int)])]) := H
  clear H
  have l7 := HL.out.lti 0 rfl
  have l6 := HL.out.lti 1 rfl
  have l3 := HL.out.lti 2 rfl
  have l5 := HL.out.but.size
  have hne : Hid (gb ≠ g7 ∧ gb ≠ g6 ∧ gb ≠ g3) := by
    refine ⟨fun e => ?_, fun e => ?_, fun e => ?_⟩ <;> (have := HL.out.nd; simp [e] at this)
  have fin : Hid (∀ (w7 : World), St (fun k => k = gb) w w7 ([(true, g7, 27, reA k s (.slice none 0 0) mn mx), (true, g6, 27, reA 0 noSet (.slice none 0 0) 0 0), (true, g3, 27, reA k s (.slice a n c) mn mx), (true, gb, 3, #[.int .i64 ((β : Nat) : Int)])] ++ []) → True) := fun _ _ => trivial
  have fin2 : Hid (∀ (w7 : World) (f : Fo) (β' : Nat) (va : Option Addr) (vn vc : Nat), w7.heap[gb]? = some (.cells #[.int .i64 ((β' : Nat) : Int)] 3 (0, 0)) → But (fun k => k = gb) w w7 → Rw w7 w5.heap.size (.slice va vn vc) f → β' + f.sz = β → okF f → CutP w gb (β + 1) (.returned (reV k s (.slice va vn vc) mn mx)) w7) := fun w7 f β' va vn vc h1 h2 h3 h4 h5 => by
    obtain ⟨xs, ro, rk⟩ := h3
    refine ⟨(⟨k, s, mn, mx⟩, f), .slice va vn vc, β', rfl, ⟨_, xs, rfl, owns8_mono ro (Nat.zero_le _), fun b hb => ?_, rk.mono (fun b _ hb => ?_)⟩, h1, ?_, h2, hoS.out, h5⟩
    · have := owns8_lt ro hb; omega
    · have := hb.1; omega
    · simp only [szT]; omega
  clear fin
  go_loopw [8] (fun iv ws => ∃ (i : Nat) (f : Fo) (va : Option Addr) (vn vc β' : Nat), iv = .int .i64 (i : Int) ∧ i ≤ 100 ∧ β' ≤ 100 ∧ Hid (St (fun k => k = gb) w ws [(true, g7, 27, reA k s (.slice va vn vc) mn mx), (true, g6, 27, reA 0 noSet (.slice none 0 0) 0 0), (true, g3, 27, reA k s (.slice a n c) mn mx), (true, gb, 3, #[.int .i64 ((β' : Nat) : Int)])]) ∧ Hid (Rw ws w5.heap.size (.slice va vn vc) f) ∧ Hid (β' + f.sz = β ∧ f.len = i) ∧ Hid (w5.heap.size ≤ ws.heap.size) ∧ Hid (okF f)) (fun iv _ => 200 - (RowKit.intOf iv).toNat)
  case atStart => exact ⟨0, .nil, none, 0, 0, β, rfl, Nat.zero_le _, hβ2, HL, Rw.start _ _, ⟨rfl, rfl⟩, Nat.le_refl _, trivial⟩
  case round =>
    obtain ⟨i, f, va, vn, vc, β', rfl, hi100, hβ100, Hr, Rr, hsum, hsz, hof⟩ := hrel
    have c3 := Hr.out.cell 2 5 rfl (v := .slice a n c) rfl
    have cB := Hr.out.cell 3 0 rfl (v := .int .i64 ((β' : Nat) : Int)) rfl
    have finr : Hid (∀ w7, St (fun k => k = gb) w w7 [(true, g7, 27, reA k s (.slice va vn vc) mn mx), (true, g6, 27, reA k s (.slice va vn vc) mn mx), (true, g3, 27, reA k s (.slice a n c) mn mx), (true, gb, 3, #[.int .i64 ((β' : Nat) : Int)])] → Rw w7 w5.heap.size (.slice va vn vc) f → CutP w gb (β + 1) (.returned (reV k s (.slice va vn vc) mn mx)) w7) := fun w7 H7 R7 => fin2.out w7 f β' va vn vc (H7.get 3 rfl) H7.but R7 hsum.out.1 hof.out
    have Rk : Hid (∀ ys, Rw (wr.setRow g6 ys) w5.heap.size (.slice va vn vc) f) := fun ys => Rr.out.kept (fun b hb _ => setRow_other _ _ _ _ (by omega))
    by_cases hin : (i : Int) < (n : Int)
    case neg =>
      go_wp2_with (first | ((with_reducible refine at_load 27 ?_); refine wl_load28 0 Hr.out rfl rfl ?_) | ((with_reducible refine at_store 27 ?_); refine wpList_store_row rfl 27 _ _ rfl g6 _ rfl rfl 27 _ (Hr.out.get 1 rfl) size28 rfl (by have h1 : ∀ k n, (Value.int k n).oneCell' = true := fun _ _ => rfl; have h2 : ∀ a n c, (Value.slice a n c).oneCell' = true := fun _ _ _ => rfl; simp [reA, h1, h2]) ?_))
      have H7 := Hr.out.setRow 1 rfl (reA k s (.slice va vn vc) mn mx)
      refine bodyPost_ret (results_cell0 rfl _ _ g6 _ rfl (load28 (H7.get 1 rfl))) rfl ?_
      exact finr.out _ H7 (Rk.out _)
    by_cases hd0 : d = 0
    case pos =>
      have e0 : (d : Int) = 0 := by omega
      have e1 : ¬ ((0 : Int) < (d : Int)) := by omega
      go_wp2_with (first | ((with_reducible refine at_load 27 ?_); refine wl_load28 0 Hr.out rfl rfl ?_) | ((with_reducible refine at_store 27 ?_); refine wpList_store_row rfl 27 _ _ rfl g6 _ rfl rfl 27 _ (Hr.out.get 1 rfl) size28 rfl (by have h1 : ∀ k n, (Value.int k n).oneCell' = true := fun _ _ => rfl; have h2 : ∀ a n c, (Value.slice a n c).oneCell' = true := fun _ _ _ => rfl; simp [reA, h1, h2]) ?_))
      have H7 := Hr.out.setRow 1 rfl (reA k s (.slice va vn vc) mn mx)
      refine bodyPost_ret (results_cell0 rfl _ _ g6 _ rfl (load28 (H7.get 1 rfl))) rfl ?_
      exact finr.out _ H7 (Rk.out _)
    have e1 : (0 : Int) < (d : Int) := by omega
    by_cases hb0 : β' = 0
    case pos =>
      have e2 : ¬ ((0 : Int) < ((β' : Nat) : Int)) := by omega
      go_wp2_with (first | ((with_reducible refine at_load 27 ?_); refine wl_load28 0 Hr.out rfl rfl ?_) | ((with_reducible refine at_store 27 ?_); refine wpList_store_row rfl 27 _ _ rfl g6 _ rfl rfl 27 _ (Hr.out.get 1 rfl) size28 rfl (by have h1 : ∀ k n, (Value.int k n).oneCell' = true := fun _ _ => rfl; have h2 : ∀ a n c, (Value.slice a n c).oneCell' = true := fun _ _ _ => rfl; simp [reA, h1, h2]) ?_))
      have H7 := Hr.out.setRow 1 rfl (reA k s (.slice va vn vc) mn mx)
      refine bodyPost_ret (results_cell0 rfl _ _ g6 _ rfl (load28 (H7.get 1 rfl))) rfl ?_
      exact finr.out _ H7 (Rk.out _)
    have e2 : (0 : Int) < ((β' : Nat) : Int) := by omega
    obtain ⟨d', rfl⟩ : ∃ d', d = d' + 1 := ⟨d - 1, by omega⟩
    obtain ⟨γ, rfl⟩ : ∃ γ, β' = γ + 1 := ⟨β' - 1, by omega⟩
    obtain ⟨hnm, hels⟩ := hkid.out d' rfl
    obtain ⟨b, off, rfl, hbl, hel⟩ := hels (by omega)
    obtain ⟨cs', hl8, hcell, hA'⟩ := hel i (by omega)
    obtain ⟨k1, s1, a1, n1, cc1, mn1, mx1, rfl, _⟩ := argR_cases hA'
    have hkeep : ∀ kk, kk < w0.heap.size → wr.heap[kk]? = w0.heap[kk]? := fun kk hkk => (Hr.out.but.block kk (by omega) (by omega)).trans (hw0'.out kk hkk)
    have hld : (loadVar 27 ⟨b, off + i * 8, none⟩).run Tryd.prog wr.drew = .ok (reV k1 s1 (.slice a1 n1 cc1) mn1 mx1) wr.drew := load28c (fun j v hj => by
      have h1 := hcell j v (by simpa using hj)
      exact (World.cell?_of_block (w := w0) (w' := wr.drew) (a := ⟨b, off + i * 8 + j, none⟩) (hkeep b hbl)).trans h1)
    have c7 := Hr.out.cell 0 5 rfl (v := .slice va vn vc) rfl
    obtain ⟨dd, hdd⟩ : ∃ dd : Int, dd = ((d' + 1 : Nat) : Int) := ⟨_, rfl⟩
    rw [← hdd] at e1
    simp only [← hdd]
    have hw1 : dd - 1 = (d' : Int) := by omega
    have hw2 : IntKind.i64.wrap (d' : Int) = (d' : Int) := by rw [IntKind.wrap_i64]; omega
    have hw3 : wrap64 (d' : Int) = (d' : Int) := by unfold wrap64; omega
    have IH := hide (ih.out d' rfl hd (reA k1 s1 (.slice a1 n1 cc1) mn1 mx1).toList γ wr.drew hA' (by omega) hkeep (Hr.out.get 3 rfl))
    have hiH := hide hin
    replace hcell := hide hcell
    replace hkeep := hide hkeep
    replace hld := hide hld
    replace c7 := hide c7
    replace hels := hide hels
    replace hel := hide hel
    replace hl8 := hide hl8
    clear ih hkid hnm finr Rk
    go_wp2_with fail
    refine reg29_7 wr g3 g7 gb b off i n c vn vc va dd (d' : Int) k1 s1 (.slice a1 n1 cc1) mn1 mx1 c7.out c3 hld.out hin hw1 hw2 hw3 _ _ _ _ _ _ _ _ _ _ _ _ _ _ _ _ _ _ _ _ _ _ _ _ _ _ _ _ _ _ _ _ _ _ _ _ _ _ _ _ _ _ _ _ ?_
    refine IH.out.mono ?_
    rintro e w8 ⟨t4, u4, β4, rfl, T4, hb4', hs4, B4, ho4⟩
    have B4' : But (fun k => k = gb) wr w8 := (But.refl _ wr).drew.trans B4 (fun _ _ h => h)
    have hsz8 := B4'.size
    have H8 : St (fun k => k = gb) w w8 [(true, g7, 27, reA k s (.slice va vn vc) mn mx), (true, g6, 27, reA 0 noSet (.slice none 0 0) 0 0), (true, g3, 27, reA k s (.slice (some ⟨b, off, none⟩) n c) mn mx), (true, gb, 3, #[.int .i64 ((β4 : Nat) : Int)])] := Hr.out.callS B4' (fun _ _ h => h) rfl (fun x hx => by
      have hn := hne.out
      rcases List.mem_cons.1 hx with rfl | hx
      · exact .inl ⟨by simp, fun h => hn.1 h.symm⟩
      rcases List.mem_cons.1 hx with rfl | hx
      · exact .inl ⟨by simp, fun h => hn.2.1 h.symm⟩
      rcases List.mem_cons.1 hx with rfl | hx
      · exact .inl ⟨by simp, fun h => hn.2.2 h.symm⟩
      rw [List.mem_singleton.1 hx]
      exact .inr hb4')
    have R8 : Rw w8 w5.heap.size (.slice va vn vc) f := Rr.out.kept (fun b hb hl => B4'.block b hl (by omega))
    have hfl : f.len ≤ 1000000 := by have := hsum.out.2; omega
    obtain ⟨a2, n2, c2, w9, happ, R9, G9⟩ := run_snoc (m := wr.heap.size) R8 T4 (fun kk hkk => (Rr.out.lt hkk).2) hsz.out hsz8 hfl
    have H9 := ((H8.alloc 27 (reA t4.1.k t4.1.s u4 t4.1.mn t4.1.mx)).tail).grown G9 (fun kk hkk => ⟨fun x hx => by
      have hk := (R8.lt hkk).1
      have hx2 := HL.out.lti 3 rfl
      rcases List.mem_cons.1 hx with rfl | hx
      · simp only; omega
      rcases List.mem_cons.1 hx with rfl | hx
      · simp only; omega
      rcases List.mem_cons.1 hx with rfl | hx
      · simp only; omega
      rw [List.mem_singleton.1 hx]
      simp only
      omega, fun hl => by have := (R8.lt hkk).1; omega⟩)
    have hst := st25 H9 0 rfl a2 n2 c2
    have H10 : Hid (St (fun k => k = gb) w (w9.setCell ⟨g7, 5, none⟩ (.slice a2 n2 c2)) [(true, g7, 27, reA k s (.slice a2 n2 c2) mn mx), (true, g6, 27, reA 0 noSet (.slice none 0 0) 0 0), (true, g3, 27, reA k s (.slice (some ⟨b, off, none⟩) n c) mn mx), (true, gb, 3, #[.int .i64 ((β4 : Nat) : Int)])]) := H9.setCell 0 rfl 5 (.slice a2 n2 c2)
    have R10 : Hid (Rw (w9.setCell ⟨g7, 5, none⟩ (.slice a2 n2 c2)) w5.heap.size (.slice a2 n2 c2) (f.snoc t4)) := R9.kept (fun b hb _ => Below.heap_setCell w9 ⟨g7, 5, none⟩ _ b (by show b ≠ g7; omega))
    have hsum2 : Hid (β4 + (f.snoc t4).sz = β ∧ (f.snoc t4).len = i + 1) := ⟨by rw [Fo.sz_snoc]; have := hsum.out.1; omega, by rw [Fo.len_snoc, hsum.out.2]⟩
    have hsz10 : Hid (w5.heap.size ≤ (w9.setCell ⟨g7, 5, none⟩ (.slice a2 n2 c2)).heap.size) := by
      have h1 := G9.size
      have h2 := hsz.out
      have h3 : (w9.setCell ⟨g7, 5, none⟩ (.slice a2 n2 c2)).heap.size = w9.heap.size := by simp [World.setCell]
      show w5.heap.size ≤ (w9.setCell ⟨g7, 5, none⟩ (.slice a2 n2 c2)).heap.size
      rw [h3]
      simp at h1
      omega
    have hof2 : Hid (okF (f.snoc t4)) := okF_snoc hof.out ho4
    clear ho4
    have hbd : Hid (i + 1 ≤ 100 ∧ β4 ≤ 100) := by
      have h1 := len_le_sz (f.snoc t4)
      have h2 := hsum2.out
      exact ⟨by omega, by omega⟩
    refine ⟨_, _, _, _, _, .slice a2 n2 c2, w9, _, rfl, H8.cell 0 5 rfl rfl, (H8.alloc 27 _).cell 1 5 rfl rfl, happ, hst, ?_⟩
    generalize w9.setCell ⟨g7, 5, none⟩ (.slice a2 n2 c2) = w10 at H10 R10 hsz10 hst
    clear hst happ H9 H8 R8 R9 G9 T4 hb4' B4 B4' IH hld c7 c3 cB
    go_wp2_with fail
    go_roundw
    case rel => exact ⟨i + 1, f.snoc t4, a2, n2, c2, β4, by go_num, hbd.out.1, hbd.out.2, H10, R10, hsum2, hsz10, hof2⟩
    case measure => simp [RowKit.intOf]; omega
set_option maxHeartbeats 4000000 in
set_option maxRecDepth 100000 in
theorem cut_any (w0 : World) (gb : Nat) (hgb : w0.heap.size ≤ gb) : ∀ (d : Nat), d ≤ 130 → ∀ (cs : List Value) (β : Nat) (w : World), ArgR w0 d cs → β + 1 ≤ 100 → (∀ k, k < w0.heap.size → w.heap[k]? = w0.heap[k]?) → w.heap[gb]? = some (.cells #[.int .i64 ((β + 1 : Nat) : Int)] 3 (0, 0)) →
    Calls Tryd.prog 29 #[.agg cs.toArray, .int .i64 (d : Int), .pointer (some ⟨gb, 0, none⟩)] w (CutP w gb (β + 1)) := by
  intro d
  induction d with
  | zero => exact cut_step w0 gb hgb 0 (fun d' h => by omega)
  | succ d ih => exact cut_step w0 gb hgb (d + 1) (fun d' h => by
      obtain rfl : d = d' := by omega
      intro hd
      exact ih (by omega))
end Go.Proofs.YthgdfgkjaepchaaDoor
namespace Go.Proofs.YthgdfgkjaepchaaDoor
open Go.RowKit Go.Shelf
set_option linter.unusedVariables false
set_option linter.unusedSimpArgs false

def sA : S4 := ⟨0, 8589934592, 0, 0⟩
def sB : S4 := ⟨0, 17179869184, 0, 0⟩
def sC : S4 := ⟨0, 34359738368, 0, 0⟩
def tr1 : Tr := (⟨2, noSet, 0, 0⟩, .cons ⟨4, noSet, 0, -1⟩ (.cons ⟨3, noSet, 0, 0⟩ (.cons ⟨1, sA, 0, 0⟩ .nil (.cons ⟨1, sB, 0, 0⟩ .nil .nil)) .nil) (.cons ⟨1, sC, 0, 0⟩ .nil .nil))
def tr2 : Tr := (⟨4, noSet, 0, -1⟩, .cons ⟨1, sA, 0, 0⟩ .nil .nil)
def px1 : ByteArray := ⟨#[40, 97, 124, 98, 41, 42, 99]⟩
def px2 : ByteArray := ⟨#[97, 42]⟩
def sx1 : ByteArray := ⟨#[97, 98, 97, 99]⟩
def sx2 : ByteArray := ⟨#[97, 98]⟩
def sx3 : ByteArray := ⟨#[98, 97, 97, 98]⟩
theorem parse1 : parseM px1 = .ok tr1 := by kernel_rfl
theorem parse2 : parseM px2 = .ok tr2 := by kernel_rfl
theorem ok1 {s : S4} (h : s = sA ∨ s = sB ∨ s = sC) : OkS s := fun k hk => by
  rcases h with rfl | rfl | rfl <;> rcases (show k = 0 ∨ k = 1 ∨ k = 2 ∨ k = 3 by omega) with rfl | rfl | rfl | rfl <;> decide
theorem okT1 : okT tr1 := ⟨noSet_ok, noSet_ok, ⟨noSet_ok, ⟨ok1 (.inl rfl), trivial, ok1 (.inr (.inl rfl)), trivial, trivial⟩, trivial⟩, ok1 (.inr (.inr rfl)), trivial, trivial⟩
theorem okT2 : okT tr2 := ⟨noSet_ok, ok1 (.inl rfl), trivial, trivial⟩
theorem n1 : (prg tr1).n ≤ 2048 := by decide +kernel
theorem n2 : (prg tr2).n ≤ 2048 := by decide +kernel
theorem b1 : bys sx1 = [97, 98, 97, 99] := by decide +kernel
theorem b2 : bys sx2 = [97, 98] := by decide +kernel
theorem b3 : bys sx3 = [98, 97, 97, 98] := by decide +kernel
theorem inA : inS sA 97 = true := by decide +kernel
theorem inB2 : inS sB 98 = true := by decide +kernel
theorem inC : inS sC 99 = true := by decide +kernel
theorem noC : inS sC 98 = false := by decide +kernel
theorem noA : inS sA 98 = false := by decide +kernel
theorem me1 (s : List Nat) : meT tr1 s ↔ cat (repM (orM [byM sA, byM sB]) 0 (-1)) (cat (byM sC) eps) s := Iff.rfl
theorem me2 (s : List Nat) : meT tr2 s ↔ repM (byM sA) 0 (-1) s := Iff.rfl
theorem yes1 : meT tr1 (bys sx1) := by
  rw [b1, me1]
  refine ⟨[97, 98, 97], [99], rfl, ⟨3, by omega, .inl rfl, [97], [98, 97], rfl, ⟨byM sA, by simp, 97, rfl, inA⟩, [98], [97], rfl, ⟨byM sB, by simp, 98, rfl, inB2⟩, [97], [], rfl, ⟨byM sA, by simp, 97, rfl, inA⟩, rfl⟩, [99], [], rfl, ⟨99, rfl, inC⟩, rfl⟩
theorem no1 : ¬ meT tr1 (bys sx2) := by
  rw [b2, me1]
  rintro ⟨u, v, e, _, x, y, rfl, ⟨b, rfl, hb⟩, hy⟩
  have hy2 : y = [] := hy
  subst hy2
  have := congrArg List.getLast? e
  simp at this
  rw [← this, noC] at hb
  cases hb
theorem pow_all {x : S4} : ∀ (r : Nat) (s : List Nat), powM (byM x) r s → ∀ b ∈ s, inS x b = true
  | 0, s, h, b, hb => by have h2 : s = [] := h; rw [h2] at hb; cases hb
  | r + 1, s, ⟨u, v, e, ⟨c, hc, hi⟩, hv⟩, b, hb => by
    rw [e, hc] at hb
    rcases List.mem_append.1 hb with hb | hb
    · rw [List.mem_singleton.1 hb]; exact hi
    · exact pow_all r v hv b hb
theorem plc2 (k : Nat) : plc ((prg tr2).put 0 0) sx3 1 k ↔ 1 ≤ k ∧ meT tr2 (([97, 97, 98] : List Nat).take (k - 1)) := by
  have hf : fitT tr2 := by have := parse_good px2; rw [parse2] at this; exact this.1
  unfold plc
  rw [prg_stn tr2 hf, b3]
  rfl
theorem ends2 : eL ((prg tr2).put 0 0) sx3 1 (sx3.size + 1) = [1, 2, 3] := by
  have h0 : ¬ plc ((prg tr2).put 0 0) sx3 1 0 := fun h => by have := h.1; omega
  have h1 : plc ((prg tr2).put 0 0) sx3 1 1 := (plc2 1).2 ⟨by omega, (me2 _).2 ⟨0, by omega, .inl rfl, rfl⟩⟩
  have h2 : plc ((prg tr2).put 0 0) sx3 1 2 := (plc2 2).2 ⟨by omega, (me2 _).2 ⟨1, by omega, .inl rfl, [97], [], rfl, ⟨97, rfl, inA⟩, rfl⟩⟩
  have h3 : plc ((prg tr2).put 0 0) sx3 1 3 := (plc2 3).2 ⟨by omega, (me2 _).2 ⟨2, by omega, .inl rfl, [97], [97], rfl, ⟨97, rfl, inA⟩, [97], [], rfl, ⟨97, rfl, inA⟩, rfl⟩⟩
  have h4 : ¬ plc ((prg tr2).put 0 0) sx3 1 4 := fun h => by
    obtain ⟨_, r, _, _, hr⟩ := (plc2 4).1 h
    have := pow_all r _ hr 98 (by simp)
    rw [noA] at this
    cases this
  have e : sx3.size + 1 = 5 := rfl
  rw [e, eL_succ_no h4, eL_succ_yes h3, eL_succ_yes h2, eL_succ_yes h1, eL_succ_no h0]
  rfl
set_option maxHeartbeats 2000000 in
set_option maxRecDepth 100000 in
/-- Two lists with the same numbers are the same. -/
theorem same_ints (xs : List Nat) (b1 o1 c1 b2 o2 c2 : Nat) (w : World) (h1 : ∀ (i z : Nat), xs[i]? = some z → w.cell? ⟨b1, o1 + i, none⟩ = some (.int .i64 (z : Int))) (h2 : ∀ (i z : Nat), xs[i]? = some z → w.cell? ⟨b2, o2 + i, none⟩ = some (.int .i64 (z : Int))) (hl : xs.length ≤ 100000) :
    Calls Tryd.prog 28 #[.slice (some ⟨b1, o1, none⟩) xs.length c1, .slice (some ⟨b2, o2, none⟩) xs.length c2] w fun e w' => e = .returned (.bool true) ∧ Below w.heap.size w w' := by
  replace h1 := hide h1
  replace h2 := hide h2
  obtain ⟨n, hn⟩ : ∃ n, n = xs.length := ⟨_, rfl⟩
  rw [← hn] at hl ⊢
  replace hn := hide hn
  go_enter Tryd.func28, Tryd.ntmps28
  go_wp2_with fail
  go_loopw [5] (fun v wr => ∃ k : Nat, v = .int .i64 ((k : Nat) : Int) ∧ k ≤ n ∧ Hid (Below w.heap.size w wr ∧ wr.heap = w.heap)) (fun v _ => n - (RowKit.intOf v).toNat)
  case atStart => exact ⟨0, rfl, Nat.zero_le _, ⟨Below.refl _ _, rfl⟩⟩
  case round =>
    obtain ⟨k, rfl, hk, hB⟩ := hrel
    by_cases hlt : k < n
    · have i1 : (k : Int) < (n : Int) := by omega
      obtain ⟨z, hz⟩ : ∃ z, xs[k]? = some z := ⟨_, List.getElem?_eq_getElem (by rw [← hn.out]; exact hlt)⟩
      have d1 : wr.cell? ⟨b1, o1 + k, none⟩ = some (.int .i64 (z : Int)) := (World.cell?_of_block (by rw [hB.out.2])).trans (h1.out k z hz)
      have d2 : wr.cell? ⟨b2, o2 + k, none⟩ = some (.int .i64 (z : Int)) := (World.cell?_of_block (by rw [hB.out.2])).trans (h2.out k z hz)
      replace hz := hide hz
      have hltH := hide hlt
      go_wp2_with fail
      go_quiet (fail)
      have hB2 : Hid (Below w.heap.size w (wr.drewN nq) ∧ (wr.drewN nq).heap = w.heap) := ⟨⟨hB.out.1.os, hB.out.1.tape, hB.out.1.output, hB.out.1.size, hB.out.1.block⟩, hB.out.2⟩
      go_wp2_with fail
      go_roundw
      case rel => exact ⟨k + 1, by go_num, hltH.out, hB2⟩
      case measure => have := hltH.out; simp [RowKit.intOf]; omega
    · obtain rfl : k = n := by omega
      go_wp2_with fail
      go_ret
      exact ⟨rfl, hB.out.1⟩
set_option maxHeartbeats 4000000 in
set_option maxRecDepth 100000 in
theorem works_any (w : World) (hT : Tab w) : Calls Tryd.prog 13 #[] w fun e w' => e = .returned (.bool true) ∧ Below w.heap.size w w' := by
  have F1 := hide (full_ok px1 sx1 tr1 parse1 (by decide) okT1 n1 (by decide) w hT)
  have hTh := hide hT
  clear hT
  go_enter Tryd.func13, Tryd.ntmps13
  go_wp2_with fail
  refine F1.out.mono ?_
  rintro e w1 ⟨B1, x1, rfl, hx1⟩
  obtain rfl : x1 = true := hx1.2 yes1
  clear hx1
  have F2 := hide (full_ok px1 sx2 tr1 parse1 (by decide) okT1 n1 (by decide) w1 (hTh.out.below B1))
  replace B1 := hide B1
  go_wp2_with fail
  refine F2.out.mono ?_
  rintro e w2 ⟨B2, x2, rfl, hx2⟩
  obtain rfl : x2 = false := by
    cases x2 with
    | false => rfl
    | true => exact (no1 (hx2.1 rfl)).elim
  clear hx2
  have B12 : Hid (Below w.heap.size w w2) := B1.out.trans (B2.mono B1.out.size)
  clear B2
  go_wp2_with fail
  refine (parse_any px2 w2 (hTh.out.below B12.out)).mono ?_
  rintro e w3 ⟨B3, ⟨h1, _⟩ | ⟨_, ⟨q, h2, _⟩ | ⟨x, t', h2, rfl, T⟩⟩⟩
  · exact absurd h1 (by decide)
  · rw [parse2] at h2; cases h2
  · rw [parse2] at h2
    cases h2
    have hg := parse_good px2
    rw [parse2] at hg
    obtain ⟨hf, hz, hd⟩ := hg
    obtain ⟨va, vn, vc, hxv⟩ := T.val
    subst hxv
    replace hf := hide hf
    replace T := hide T
    have H := St.start Nope w3
    have B13 : Hid (Below w.heap.size w w3) := B12.out.trans (B3.mono B12.out.size)
    clear B3
    have hz2 : szT tr2 ≤ 4096 := by decide +kernel
    have hd2 : dpT tr2 ≤ 128 := by decide +kernel
    clear hz hd
    simp only [tr2]
    go_wp2_with (first | (with_reducible refine at_alloc 27 ?_; refine wl_alloc28 H ?_; clear H; intro g1 w' H q1 q2) | (with_reducible refine at_store 27 ?_; refine wl_store28 0 H rfl rfl rfl rfl ?_; clear H; intro w' H) | ((with_reducible refine at_load 27 ?_); refine wl_load28 0 H rfl rfl ?_))
    have G1 := H.below
    refine (make_ok tr2 _ _ _ (T.out.kept (fun k _ hk => G1.block k hk)) hf.out hz2 hd2).mono ?_
    rintro e w5 ⟨B5, ⟨h3, _⟩ | ⟨_, v, rfl, R5, _⟩⟩
    · exact absurd n2 (by omega)
    · replace H := H.call B5 (Nat.le_refl _)
      have B15 : Hid (Below w.heap.size w w5) := B13.out.trans (H.below.mono B13.out.size)
      obtain ⟨a, c, rfl, HI⟩ := R5.hs2 (w' := w5) (fun _ _ => rfl) (Nat.le_refl _)
      have hp := (prg tr2).pos
      have hE := hide (ends_any a c _ sx3 1 w5 HI (hTh.out.below B15.out) (prg_go tr2 hf.out) (prg_oks tr2 okT2) (chkS_0 tr2 hf.out n2 sx3 (by decide)) (by rw [prg_len]; omega) (by rw [prg_len]; exact n2) (by decide) (by decide))
      rw [ends2] at hE
      generalize ((prg tr2).put 0 0).length = n at *
      clear H R5 HI G1
      go_wp2_with fail
      refine hE.out.mono ?_
      rintro e w6 ⟨B6, v, rfl, ho⟩
      obtain ⟨g, cap, cur, rfl, q1, q2, q3, q4, q5, q6⟩ : ∃ g cap cur, v = .slice (some ⟨g, 0, none⟩) 3 cap ∧ w5.heap.size ≤ g ∧ w6.heap[g]? = some (.cells cur 3 (0, 0)) ∧ 3 ≤ cap ∧ cap ≤ maxLen ∧ cur.size = cap * 1 ∧ cur.toList.take (3 * 1) = cellsI [1, 2, 3] := by
        rcases ho.2 with ⟨_, h⟩ | h
        · cases h
        · exact h
      have B16 : Hid (Below w.heap.size w w6) := B15.out.trans (B6.mono B15.out.size)
      have hb7 : Below w6.heap.size w6 (w6.alloc (.cells #[.int .i64 1, .int .i64 2, .int .i64 3] 3)) := (Below.refl _ _).alloc (Nat.le_refl _) _
      have hcell : ∀ (i z : Nat), ([1, 2, 3] : List Nat)[i]? = some z → cur[i]? = some (Value.int .i64 (z : Int)) := fun i z hi => by
        have hi3 : i < 3 := (List.getElem?_eq_some_iff.1 hi).1
        have h1 : (cur.toList.take (3 * 1))[i]? = some (Value.int .i64 (z : Int)) := by
          rw [q6]
          unfold cellsI
          rw [List.getElem?_map, hi]
          rfl
        rw [List.getElem?_take_of_lt (by omega)] at h1
        simpa using h1
      have hS := hide (same_ints [1, 2, 3] g 0 cap w6.heap.size 0 3 (w6.alloc (.cells #[.int .i64 1, .int .i64 2, .int .i64 3] 3)) (fun i z hi => by
        rw [cell_of_row _ g _ _ 3 (0, 0) ((hb7.block g (Array.getElem?_eq_some_iff.1 q2).1).trans q2), Nat.zero_add]
        exact hcell i z hi) (fun i z hi => by
        rw [cell_of_row _ _ _ _ 3 (0, 0) (heap_alloc_new w6 _), Nat.zero_add]
        have hi3 : i < 3 := (List.getElem?_eq_some_iff.1 hi).1
        rcases (show i = 0 ∨ i = 1 ∨ i = 2 by omega) with rfl | rfl | rfl <;> (cases hi; rfl)) (by decide))
      replace hb7 := hide hb7
      replace hcell := hide hcell
      replace q2 := hide q2
      replace q6 := hide q6
      clear ho B6
      go_wp2_with fail
      refine hS.out.mono ?_
      rintro e w8 ⟨rfl, B8⟩
      have B18 : Hid (Below w.heap.size w w8) := (B16.out.trans (hb7.out.mono B16.out.size)).trans (B8.mono (by have := B16.out.size; have := hb7.out.size; omega))
      clear B8
      go_wp2_with fail
      go_ret
      exact ⟨rfl, B18.out⟩
end Go.Proofs.YthgdfgkjaepchaaDoor
namespace Go.Proofs.YthgdfgkjaepchaaDoor
open Go.RowKit
set_option linter.unusedVariables false
set_option linter.unusedSimpArgs false

theorem dp_le_sz2 : ∀ f : Fo, f.dp ≤ f.sz
  | .nil => Nat.le_refl _
  | .cons n k r => by have := dp_le_sz2 k; have := dp_le_sz2 r; simp only [Fo.dp, Fo.sz]; omega
theorem dpT_le2 (t : Tr) : dpT t ≤ szT t := by have := dp_le_sz2 t.2; simp only [dpT, szT]; omega
/-- How some ends. -/
def SomeP (w : World) (e : Ending) (w' : World) : Prop := ∃ t u a n c b, e = .returned (.tuple #[reV t.1.k t.1.s u t.1.mn t.1.mx, .slice a n c, .bool b]) ∧ TrV w' (fun b => w.heap.size ≤ b) (reV t.1.k t.1.s u t.1.mn t.1.mx) t ∧ u.oneCell' = true ∧ szT t ≤ 100 ∧ okT t ∧ Below w.heap.size w w' ∧
  (b = true → fitT t ∧ (prg t).n ≤ 150 ∧ RI w' (.slice a n c) ((prg t).put 0 0) ∧ ∀ k, (Value.slice a n c).ownBlock = some k → w.heap.size ≤ k)
set_option maxHeartbeats 4000000 in
set_option maxRecDepth 100000 in
theorem some_any (cs : Array Value) (w : World) (hA : ∀ d, ArgR w d cs.toList) : Calls Tryd.prog 14 #[.agg cs] w (SomeP w) := by
  obtain ⟨k, s, a, n, c, mn, mx, hcs, _⟩ := argR_cases (hA 0)
  obtain rfl : cs = reA k s (.slice a n c) mn mx := by
    apply Array.ext'
    exact hcs
  show Calls Tryd.prog 14 #[reV k s (.slice a n c) mn mx] w _
  have hA1 := hide (hA 8)
  clear hA hcs
  have H := St.start Nope w
  go_enter Tryd.func14, Tryd.ntmps14
  go_wp2_with (first | ((with_reducible refine at_box 27 ?_); refine wl_box28 H rfl ?_; clear H; intro g1 w1 H q1 q2) | ((with_reducible refine at_alloc 27 ?_); refine wl_alloc28 H ?_; clear H; intro g2 w2 H q3 q4) | ((with_reducible refine at_alloc 3 ?_); refine wl_alloc 3 #[.int .i64 0] H (fun w => run_alloc3 w) ?_; clear H; intro g3 w3 H q5 q6) | ((with_reducible refine at_store 3 ?_); refine wl_store1 0 0 3 (v := .int .i64 40) H rfl rfl rfl (by simp) one3 rfl ?_; clear H; intro w4 H) | ((with_reducible refine at_load 27 ?_); refine wl_load28 2 H rfl rfl ?_))
  have H4 : St Nope w w4 [(true, g3, 3, #[.int .i64 40]), (true, g2, 27, reA 0 noSet (.slice none 0 0) 0 0), (true, g1, 27, reA k s (.slice a n c) mn mx)] := H
  have hb4 := H4.below
  have l2 := H4.lti 1 rfl
  have l1 := H4.lti 2 rfl
  have hne : g2 ≠ g3 ∧ g1 ≠ g3 ∧ g1 ≠ g2 := by
    refine ⟨fun e => ?_, fun e => ?_, fun e => ?_⟩ <;> (have := H4.nd; simp [e] at this)
  have CU := cut_any w g3 q5 8 (by omega) (reA k s (.slice a n c) mn mx).toList 39 w4 hA1.out (by omega) (fun kk hkk => hb4.block kk hkk) (H4.get 0 rfl)
  replace CU := hide CU
  clear H
  replace H4 := hide H4
  replace hb4 := hide hb4
  refine CU.out.mono ?_
  rintro e w5 ⟨t, u, β', rfl, T, hbx, hs, B5, hoT⟩
  have hu : u.oneCell' = true := by
    obtain ⟨va, vn, vc, hx⟩ := T.val
    simp only [reV, reA, Value.agg.injEq] at hx
    have := congrArg (fun a => a[5]?) hx
    simp at this
    rw [this]
    rfl
  have hszw := hb4.out.size
  have H5 : St Nope w w5 [(true, g3, 3, #[.int .i64 ((β' : Nat) : Int)]), (true, g2, 27, reA 0 noSet (.slice none 0 0) 0 0), (true, g1, 27, reA k s (.slice a n c) mn mx)] := H4.out.callS B5 (fun i hi h => by omega) rfl (fun x hx => by
      rcases List.mem_cons.1 hx with rfl | hx
      · exact .inr hbx
      rcases List.mem_cons.1 hx with rfl | hx
      · exact .inl ⟨by simp, hne.1⟩
      rw [List.mem_singleton.1 hx]
      exact .inl ⟨by simp, hne.2.1⟩)
  have hT : Hid (TrV w5 (fun b => w4.heap.size ≤ b) (reV t.1.k t.1.s u t.1.mn t.1.mx) t) := T
  have hsz5 := B5.size
  clear T B5
  have H5b : St (fun k => k = g1 ∨ k = g2) w5 w5 [(true, g2, 27, reA 0 noSet (.slice none 0 0) 0 0), (true, g1, 27, reA k s (.slice a n c) mn mx)] := ⟨But.refl _ _, fun x hx => by
      rcases List.mem_cons.1 hx with rfl | hx
      · exact H5.get 1 rfl
      · rw [List.mem_singleton.1 hx]; exact H5.get 2 rfl, fun x hx _ _ => by
      rcases List.mem_cons.1 hx with rfl | hx
      · exact .inr rfl
      · rw [List.mem_singleton.1 hx]; exact .inl rfl, by simp; exact fun e => hne.2.2 e.symm⟩
  have hB5 := hide H5.below
  clear H5
  replace hoT := hide hoT
  replace hne := hide hne
  go_wp2_with (first | ((with_reducible refine at_store 27 ?_); refine wl_store28 1 H5b rfl rfl rfl hu ?_; clear H5b; intro w6 H6) | ((with_reducible refine at_load 27 ?_); refine wl_load28 1 H6 rfl rfl ?_))
  have T6 : TrV w6 (fun b => w4.heap.size ≤ b) (reV t.1.k t.1.s u t.1.mn t.1.mx) t := hT.out.kept (fun b hb hl => H6.but.block b hl (by omega))
  have hdp := dpT_le2 t
  have hl1 := H6.lti 1 rfl
  have hl0 := H6.lti 0 rfl
  refine (make_all t _ _ w6 T6 (by omega) (by omega)).mono ?_
  rintro e w7 ⟨B7, a2, n2, c2, rfl, hm1, hm2⟩
  have H7 := H6.call B7 (Nat.le_refl _)
  have T7 : Hid (TrV w7 (fun b => w4.heap.size ≤ b) (reV t.1.k t.1.s u t.1.mn t.1.mx) t) := T6.kept (fun b hb hl => B7.block b hl)
  have hs67 := B7.size
  have hB7 : Hid (Below w.heap.size w w7) := hB5.out.trans (H7.but.below hB5.out.size (fun k e => by omega))
  clear T6 B7 H6
  replace hm1 := hide hm1
  replace hm2 := hide hm2
  have fin : Hid (∀ w8 b, St (fun k => k = g1 ∨ k = g2) w5 w8 [(true, g2, 27, reA t.1.k t.1.s u t.1.mn t.1.mx), (true, g1, 27, reA t.1.k t.1.s u t.1.mn t.1.mx)] → But (fun k => k = g2) w7 w8 → (b = true → mkE t = 0 ∧ n2 ≤ 150) → SomeP w (.returned (.tuple #[reV t.1.k t.1.s u t.1.mn t.1.mx, .slice a2 n2 c2, .bool b])) w8) := fun w8 b H8 B8 hb => by
    refine ⟨t, u, a2, n2, c2, b, rfl, ((T7.out.kept (fun b hb hl => B8.block b hl (by omega))).mono (fun b _ hb => by omega)), hu, by omega, hoT.out, hB7.out.trans (B8.below hB7.out.size (fun k e => by omega)), fun hbt => ?_⟩
    obtain ⟨h1, h2⟩ := hb hbt
    obtain ⟨h3, h4, h5⟩ := hm2.out h1
    rw [prg_len] at h3
    refine ⟨(mkE_0 h1).1, by omega, RI.kept h4 (fun k hk hb2 => B8.block k hk (by have := h5 k hb2; omega)), fun k hk => by have := h5 k hk; omega⟩
  have H7b : St (fun k => k = g2) w7 w7 [(true, g2, 27, reA 0 noSet (.slice none 0 0) 0 0), (false, g1, 27, reA t.1.k t.1.s u t.1.mn t.1.mx)] := by
    refine ⟨But.refl _ _, fun x hx => ?_, fun x hx hr _ => ?_, ?_⟩
    · rcases List.mem_cons.1 hx with rfl | hx
      · exact H7.get 0 rfl
      · rw [List.mem_singleton.1 hx]; exact H7.get 1 rfl
    · rcases List.mem_cons.1 hx with rfl | hx
      · rfl
      · rw [List.mem_singleton.1 hx] at hr; cases hr
    · simp; exact fun e => hne.out.2.2 e.symm
  have H7H := hide H7
  clear H7
  by_cases h0 : mkE t = 0
  · have hme : Hid (mkE t = 0) := h0
    rw [h0]
    go_wp2_with (first | ((with_reducible refine at_load 27 ?_); refine wl_load28 1 H7b rfl rfl ?_) | ((with_reducible refine at_store 27 ?_); refine wl_store28 0 H7b rfl rfl rfl hu ?_; clear H7b; intro w8 H8))
    refine bodyPost_ret (results_cell2 rfl _ _ g2 _ rfl (load28 (H8.get 0 rfl))) rfl ?_
    exact fin.out _ (decide ((n2 : Int) ≤ 150)) (H7H.out.callS H8.but (fun i hi h => .inr h) rfl (fun x hx => by
      rcases List.mem_cons.1 hx with rfl | hx
      · exact .inr (H8.get 0 rfl)
      · rw [List.mem_singleton.1 hx]; exact .inr (H8.get 1 rfl))) H8.but (fun h => ⟨hme.out, by have := of_decide_eq_true h; omega⟩)
  · have i0 : (mkE t == 0) = false := by simpa using h0
    generalize hmk : mkE t = r at *
    replace h0 := hide h0
    replace hmk := hide hmk
    go_wp2_with (first | ((with_reducible refine at_load 27 ?_); refine wl_load28 1 H7b rfl rfl ?_) | ((with_reducible refine at_store 27 ?_); refine wl_store28 0 H7b rfl rfl rfl hu ?_; clear H7b; intro w8 H8))
    refine bodyPost_ret (results_cell2 rfl _ _ g2 _ rfl (load28 (H8.get 0 rfl))) rfl ?_
    exact fin.out _ false (H7H.out.callS H8.but (fun i hi h => .inr h) rfl (fun x hx => by
      rcases List.mem_cons.1 hx with rfl | hx
      · exact .inr (H8.get 0 rfl)
      · rw [List.mem_singleton.1 hx]; exact .inr (H8.get 1 rfl))) H8.but (fun h => by cases h)
end Go.Proofs.YthgdfgkjaepchaaDoor
