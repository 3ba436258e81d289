/-
  The programs of patterns: where they go, their sets; Match, Full, Ends of them.
-/
import Derived.Test.YtkfdikpnnkbgaaaGreatDoorSR
import Derived.Test.YtkfdikpnnkbgaaaGreatDoorDR
namespace Go.Proofs.YtkfdikpnnkbgaaaGreatDoor
open Go.RowKit Go.Shelf
set_option linter.unusedVariables false
set_option linter.unusedSimpArgs false

/-- All sets of a pattern are sets of bytes. -/
def okF : Fo → Prop
  | .nil => True
  | .cons n k r => OkS n.s ∧ okF k ∧ okF r
def okT (t : Tr) : Prop := OkS t.1.s ∧ okF t.2
def StOk (c : Cd) : Prop := ∀ a m, ∀ q ∈ c.put a m, OkS q.s
theorem sq_ok : ∀ (l : List Cd), (∀ c ∈ l, StOk c) → ∀ a m, ∀ q ∈ sqP l a m, OkS q.s
  | [], _, a, m, q, hq => by rw [List.mem_singleton.1 hq]; exact noSet_ok
  | [c], h, a, m, q, hq => h c (by simp) a m q hq
  | c :: d :: r, h, a, m, q, hq => by
    rcases List.mem_append.1 hq with hq | hq
    · exact h c (by simp) _ _ q hq
    · exact sq_ok (d :: r) (fun x hx => h x (by simp [List.mem_cons.1 hx])) _ _ q hq
theorem ch_ok : ∀ (l : List Cd), (∀ c ∈ l, StOk c) → ∀ a m, ∀ q ∈ chP l a m, OkS q.s
  | [], _, a, m, q, hq => by rw [List.mem_singleton.1 hq]; exact noSet_ok
  | [c], h, a, m, q, hq => h c (by simp) a m q hq
  | c :: d :: r, h, a, m, q, hq => by
    rcases List.mem_cons.1 hq with rfl | hq
    · exact noSet_ok
    · rcases List.mem_append.1 hq with hq | hq
      · exact h c (by simp) _ _ q hq
      · exact ch_ok (d :: r) (fun x hx => h x (by simp [List.mem_cons.1 hx])) _ _ q hq
theorem cdN_ok (n : Nd) (hn : OkS n.s) (l : List Cd) (h : ∀ c ∈ l, StOk c) : StOk (cdN n l) := by
  unfold cdN
  split
  · intro a m q hq
    rw [List.mem_singleton.1 hq]; exact hn
  · split
    · have hc : StOk (l.headD (sgl 4 noSet)) := by
        cases l with
        | nil => intro a m q hq; rw [List.mem_singleton.1 hq]; exact noSet_ok
        | cons c r => exact h c (by simp)
      generalize l.headD (sgl 4 noSet) = c at hc
      intro a m q hq
      refine sq_ok (rpL c n.mn.toNat n.mx m) (fun x hx => ?_) a m q hq
      unfold rpL at hx
      rcases List.mem_append.1 hx with hx | hx
      · rw [(List.mem_replicate.1 hx).2]; exact hc
      · split at hx
        · rw [List.mem_singleton.1 hx]
          intro a m q hq
          rcases List.mem_cons.1 hq with rfl | hq
          · exact noSet_ok
          · exact hc _ _ q hq
        · rw [(List.mem_replicate.1 hx).2]
          intro a m q hq
          rcases List.mem_cons.1 hq with rfl | hq
          · exact noSet_ok
          · exact hc _ _ q hq
    · split
      · exact fun a m q hq => ch_ok l h a m q hq
      · exact fun a m q hq => sq_ok l h a m q hq
theorem fo_ok : ∀ f : Fo, okF f → ∀ c ∈ f.cds, StOk c
  | .nil, _, c, hc => by cases hc
  | .cons n k r, ⟨h1, h2, h3⟩, c, hc => by
    rcases List.mem_cons.1 hc with rfl | hc
    · exact cdN_ok n h1 _ (fo_ok k h2)
    · exact fo_ok r h3 c hc
theorem prg_oks (t : Tr) (h : okT t) : ∀ q ∈ (prg t).put 0 0, OkS q.s := fun q hq => by
  rw [prg_put] at hq
  rcases List.mem_append.1 hq with hq | hq
  · exact cdN_ok t.1 h.1 _ (fo_ok t.2 h.2) _ _ q hq
  · rw [List.mem_singleton.1 hq]; exact noSet_ok
theorem tgt_in2 {lo hi m : Nat} {z : Int} (h : Tgt (fun _ => False) lo hi m z) (hm : m ≤ hi) : 0 ≤ z ∧ z ≤ (hi : Int) := by
  rcases h with h | h | h
  · omega
  · omega
  · exact h.elim
theorem prg_go (t : Tr) (hf : fitT t) : GoL ((prg t).put 0 0) := fun q hq => by
  have hl := (prg t).len 0 0
  have hN := cdT_nice t hf
  rw [hl, prg_n]
  rw [prg_put] at hq
  rcases List.mem_append.1 hq with hq | hq
  · have := hN.ops 0 (cdT t).n q hq
    rw [Nat.zero_add] at this
    obtain ⟨h1, h2⟩ := this
    have hx2 := tgt_in2 h2 (Nat.le_refl _)
    refine ⟨fun _ => by omega, fun h => ?_⟩
    rcases h1 with ⟨h3, _⟩ | ⟨h3, _⟩ | ⟨_, _, hy⟩
    · omega
    · omega
    · have := tgt_in2 hy (Nat.le_refl _); omega
  · rw [List.mem_singleton.1 hq]
    simp
theorem prg_len (t : Tr) : ((prg t).put 0 0).length = (prg t).n := (prg t).len 0 0
theorem prg_stn (t : Tr) (hf : fitT t) (s : List Nat) : accS ((prg t).put 0 0) (stn ((prg t).put 0 0) s) ↔ meT t s := (stn_acc _ s).trans (prg_acc t hf s)
theorem chkS_0 (t : Tr) (hf : fitT t) (hn : (prg t).n ≤ 2048) (s : ByteArray) (hs : s.size ≤ 65536) : chkS ((prg t).put 0 0) s = 0 := by
  unfold chkS
  rw [if_pos (prg_chk t hf hn), if_neg (by omega)]
theorem RI.hs2 {w w' : World} {v : Value} {L : List Ins} (h : RI w v L) (hk : ∀ k, v.ownBlock = some k → w'.heap[k]? = w.heap[k]?) (hs : w.heap.size ≤ w'.heap.size) : ∃ a c, v = .slice a L.length c ∧ HsI w' (fun k => k < w'.heap.size) a L := by
  obtain ⟨a, c, e, H⟩ := h.hs
  exact ⟨a, c, e, H.kept (fun k hy _ => hk k hy) (fun k hk _ => by omega)⟩
/-- Match of a pattern's program. -/
theorem match_T (t : Tr) (hf : fitT t) (ho : okT t) (hn : (prg t).n ≤ 2048) (v : Value) (s : ByteArray) (hs : s.size ≤ 65536) (w : World) (hT : Tab w) (hR : RI w v ((prg t).put 0 0)) :
    Calls Tryz.prog 11 #[v, .string s] w fun e w' => Below w.heap.size w w' ∧ ∃ x : Bool, e = .returned (.tuple #[.bool x, .int .i64 0]) ∧ (x = true ↔ meT t (bys s)) := by
  obtain ⟨a, c, rfl, H⟩ := hR.hs2 (w' := w) (fun _ _ => rfl) (Nat.le_refl _)
  have hp := (prg t).pos
  refine (match_any a c _ s w H hT (prg_go t hf) (prg_oks t ho) (chkS_0 t hf hn s hs) (by rw [prg_len]; omega) (by rw [prg_len]; exact hn) hs).mono ?_
  rintro e w' ⟨B, x, rfl, hx⟩
  exact ⟨B, x, rfl, hx.trans (prg_stn t hf (bys s))⟩
set_option maxHeartbeats 4000000 in
set_option maxRecDepth 100000 in
theorem full_ok (p s : ByteArray) (t : Tr) (hp : parseM p = .ok t) (hps : p.size ≤ 256) (ho : okT t) (hn : (prg t).n ≤ 2048) (hs : s.size ≤ 65536) (w : World) (hT : Tab w) :
    Calls Tryz.prog 14 #[.string p, .string s] w fun e w' => Below w.heap.size w w' ∧ ∃ x : Bool, e = .returned (.tuple #[.bool x, .int .i64 0, .int .i64 0]) ∧ (x = true ↔ meT t (bys s)) := by
  have hg := parse_good p
  rw [hp] at hg
  obtain ⟨hf, hz, hd⟩ := hg
  replace hf := hide hf
  replace ho := hide ho
  have hT' := hide hT
  go_enter Tryz.func14, Tryz.ntmps14
  go_wp2_with fail
  refine (parse_any p w hT).mono ?_
  rintro e w1 ⟨B1, ⟨h1, _⟩ | ⟨_, ⟨q, h2, _⟩ | ⟨x, t', h2, rfl, T⟩⟩⟩
  · omega
  · rw [hp] at h2; cases h2
  · rw [hp] at h2
    cases h2
    obtain ⟨va, vn, vc, rfl⟩ := T.val
    have H := St.start Nope w1
    replace T := hide T
    clear hT
    go_wp2_with (first | (with_reducible refine at_alloc 27 ?_; refine wl_alloc28 H ?_; clear H; intro g1 w' H q1 q2) | (with_reducible refine at_store 27 ?_; refine wl_store28 0 H rfl rfl rfl rfl ?_; clear H; intro w' H) | ((with_reducible refine at_load 27 ?_); refine wl_load28 0 H rfl rfl ?_))
    have F1 := H.below
    rename_i w2 _ _
    refine (make_ok t _ _ _ (T.out.kept (fun k _ hk => F1.block k hk)) hf.out (by omega) (by omega)).mono ?_
    rintro e w3 ⟨B3, ⟨h3, _⟩ | ⟨_, v, rfl, R3, _⟩⟩
    · omega
    · replace H := H.call B3 (Nat.le_refl _)
      have F3 := H.below
      have hs1 := B1.size
      have BB : Below w.heap.size w w3 := B1.trans (F3.mono hs1)
      have hm := hide (match_T t hf.out ho.out hn v s hs w3 (hT'.out.below BB) R3)
      replace BB := hide BB
      replace F3 := hide F3
      replace R3 := hide R3
      clear H
      go_wp2_with fail
      refine hm.out.mono ?_
      rintro e w4 ⟨B4, x, rfl, hx⟩
      replace hx := hide hx
      go_wp2_with fail
      go_ret3
      exact ⟨BB.out.trans (B4.mono BB.out.size), x, rfl, hx.out⟩
set_option maxHeartbeats 1000000 in
theorem ends_box (al : Option Addr) (m c : Nat) (s : ByteArray) (fr : Nat) (w : World) : Calls Tryz.prog 75 #[.slice al m c, .string s, .int .i64 (fr : Int)] w fun e w' => ∃ gl gs gf, e = .returned (.func (.func 113) #[] #[.pointer (some ⟨gl, 0, none⟩), .pointer (some ⟨gf, 0, none⟩), .pointer (some ⟨gs, 0, none⟩)]) ∧ w'.heap[gl]? = some (.cells #[.slice al m c] 30 (0, 0)) ∧ w'.heap[gs]? = some (.cells #[.string s] 9 (0, 0)) ∧ w'.heap[gf]? = some (.cells #[.int .i64 (fr : Int)] 3 (0, 0)) ∧ Below w.heap.size w w' := by
  have hmf : ∀ (fn : Fn) (first cap : Array Value) (w : World), (Instr.makeFunc fn first cap).run Tryz.prog w = .ok (.func fn first cap) w := fun _ _ _ _ => rfl
  have H := (((St.start Nope w).alloc 30 #[.slice al m c]).alloc 9 #[.string s]).alloc 3 #[.int .i64 (fr : Int)]
  have g0 := hide (H.get 0 rfl)
  have g1 := hide (H.get 1 rfl)
  have g2 := hide (H.get 2 rfl)
  have hb := hide H.below
  clear H
  go_enter Tryz.func75, Tryz.ntmps75
  go_wp2_with fail
  go_ret
  exact ⟨_, _, _, rfl, by simpa using g2.out, by simpa using g1.out, by simpa using g0.out, hb.out⟩
set_option maxRecDepth 100000 in
set_option maxHeartbeats 2000000 in
theorem ends_any (ad : Option Addr) (c : Nat) (L : List Ins) (s : ByteArray) (fr : Nat) (w : World) (hL : HsI w (fun k => k < w.heap.size) ad L) (hT : Tab w) (hG : GoL L) (hok : ∀ q ∈ L, OkS q.s) (hc : chkS L s = 0) (h0 : 0 < L.length) (hlen : L.length ≤ 2048) (hs : s.size ≤ 65536) (hfr : fr ≤ s.size) :
    Calls Tryz.prog 40 #[.slice ad L.length c, .string s, .int .i64 (fr : Int)] w fun e w' => Below w.heap.size w w' ∧ ∃ v, e = .returned (.tuple #[v, .int .i64 0]) ∧ w'.ownsRow w.heap.size 3 1 v (eL L s fr (s.size + 1)).length (cellsI (eL L s fr (s.size + 1))) := by
  have H1 := hide (check_sim ad c L s w hL)
  rw [hc] at H1
  have i1 : ¬ ((fr : Int) < 0) := by omega
  have i2 : ¬ ((s.size : Int) < (fr : Int)) := by omega
  have i3 : (fr : Int) ≤ (s.size : Int) := by omega
  have hL' := hide hL
  replace hT := hide hT
  replace hG := hide hG
  replace hok := hide hok
  clear hc hL
  go_enter Tryz.func40, Tryz.ntmps40
  go_wp2_with fail
  refine H1.out.mono ?_
  rintro e w1 ⟨rfl, B1⟩
  replace B1 := hide B1
  go_wp2_with fail
  refine (ends_box ad L.length c s fr w1).mono ?_
  rintro e w2 ⟨gl, gs, gf, rfl, f1, f2, f3, B2⟩
  have hs1 := B1.out.size
  have B12 : Below w.heap.size w w2 := B1.out.trans (B2.mono hs1)
  have hL2 : HsI w2 (fun k => k < w2.heap.size) ad L := hL'.out.kept (fun k _ hk => B12.block k hk) (fun k hk h => by have := B12.size; omega)
  have hcl := hide (collect_any 113 _ w2.heap.size (s.size + 2) (by omega) _ w2 (Nat.le_refl _) (enters_of Tryz.func113 (by kernel_rfl) rfl) (ends_stops 7 gl gf gs ad c L s fr w2 f1 f3 f2 hL2 (hT.out.below B12) hG.out hok.out h0 hlen hs hfr))
  replace f1 := hide f1
  replace f2 := hide f2
  replace f3 := hide f3
  replace B12 := hide B12
  replace B2 := hide B2
  replace hL2 := hide hL2
  go_wp2_with fail
  refine hcl.out.mono ?_
  rintro e w3 ⟨v, xs, rfl, rfl, ho, B3⟩
  have hs2 := B12.out.size
  have ho2 : w3.ownsRow w.heap.size 3 1 v (eL L s fr (s.size + 1)).length (cellsI (eL L s fr (s.size + 1))) := by
    refine ⟨ho.1, ?_⟩
    rcases ho.2 with h | ⟨g, cap, cur, q0, q1, q2⟩
    · exact .inl h
    · exact .inr ⟨g, cap, cur, q0, by omega, q2⟩
  replace ho2 := hide ho2
  replace B3 := hide B3
  clear ho
  go_wp2_with fail
  go_ret2
  exact ⟨B12.out.trans (B3.out.mono hs2), v, rfl, ho2.out⟩
end Go.Proofs.YtkfdikpnnkbgaaaGreatDoor
