/-
  The iterator over all Res of a pattern.
-/
import Derived.Test.YtkfdikpnnkbgaaaGreatDoorT
import Derived.RangeFuncNested
import Derived.RangeFuncBound
import Derived.RangeFuncCalls
import Derived.RangeFuncLeaves
import Derived.RangeFuncFrom
import Derived.RangeFuncWrites
import Derived.Shelf.Abstract
import Derived.Shelf.RegionOpen
import Derived.OwnWalkIn
import Derived.TacticsInMore
import Derived.LoopNIn
import Derived.LoopIn
namespace Go.Proofs.YtkfdikpnnkbgaaaGreatDoor
open Go.RowKit Go.Shelf
set_option linter.unusedVariables false
set_option linter.unusedSimpArgs false
attribute [local go_sem] Oper.semAt_some

section
variable {F : Fence} {n : Nat} {w w' : World} {ops : Array Oper} {rest : List Oper} {a : Act} {Q : Exit → Act → World → Prop} {dst : Option Nat} {x y : Operand} {ty : TypeId} {pos : String} {after : Array Edge}
theorem wlI_val {op : Op} {v : Value} (hF : ∀ f, F.fn f) (hd : ∀ c, op ≠ .defer c) (hrun : (execOp a.eval ⟨dst, op, ty, pos, after, none⟩).run Tryz.prog w = .ok (.value v) w') (h : wpListIn F n Tryz.prog ops Q rest (a.put dst v) w') : wpListIn F n Tryz.prog ops Q (⟨dst, op, ty, pos, after, none⟩ :: rest) a w := by
  refine wpListIn_plain rfl fun K hK => ?_
  unfold Oper.wpIn
  refine ⟨fun f _ => hF f, ?_⟩
  rw [Oper.semAt_plain F _ _ (fun c => hd c), hrun]
  exact hK _ _ h
theorem wlI_skip {op : Op} (hF : ∀ f, F.fn f) (hd : ∀ c, op ≠ .defer c) (hrun : (execOp a.eval ⟨none, op, ty, pos, after, none⟩).run Tryz.prog w = .ok .skip w') (h : wpListIn F n Tryz.prog ops Q rest a w') : wpListIn F n Tryz.prog ops Q (⟨none, op, ty, pos, after, none⟩ :: rest) a w := by
  refine wpListIn_plain rfl fun K hK => ?_
  unfold Oper.wpIn
  refine ⟨fun f _ => hF f, ?_⟩
  rw [Oper.semAt_plain F _ _ (fun c => hd c), hrun]
  exact hK _ _ h
theorem atI_load (t : TypeId) (h : wpListIn F n Tryz.prog ops Q (⟨dst, .load t x, ty, pos, after, none⟩ :: rest) a w) : wpListIn F n Tryz.prog ops Q (⟨dst, .load t x, ty, pos, after, none⟩ :: rest) a w := h
theorem atI_box (t : TypeId) (h : wpListIn F n Tryz.prog ops Q (⟨dst, .box t x, ty, pos, after, none⟩ :: rest) a w) : wpListIn F n Tryz.prog ops Q (⟨dst, .box t x, ty, pos, after, none⟩ :: rest) a w := h
theorem wlI_load (t : TypeId) {ad : Addr} {v : Value} (hF : ∀ f, F.fn f) (hx : a.eval x = .pointer (some ad)) (hl : (loadVar t ad).run Tryz.prog w = .ok v w) (k : wpListIn F n Tryz.prog ops Q rest (a.put dst v) w) : wpListIn F n Tryz.prog ops Q (⟨dst, .load t x, ty, pos, after, none⟩ :: rest) a w := by
  refine wlI_val hF (fun c => nofun) ?_ k
  unfold execOp
  simp only [hx, Instr.loadAt, Instr.sureAddr, Sem.run_bind, Sem.run_pure, Result.andThen_ok, hl]
theorem wlI_box28 (hF : ∀ f, F.fn f) {m : Int} {s : S4} {l : Value} {mn mx : Int} (hx : a.eval x = reV m s l mn mx) (h : ∀ g w', w'.heap[g]? = some (.cells (reA m s l mn mx) 27 (0, 0)) → Below w.heap.size w w' → w.heap.size ≤ g → wpListIn F n Tryz.prog ops Q rest (a.put dst (.pointer (some ⟨g, 0, none⟩))) w') : wpListIn F n Tryz.prog ops Q (⟨dst, .box 27 x, ty, pos, after, none⟩ :: rest) a w :=
  wlI_val hF (fun c => nofun) (run_box28 _ _ _ _ _ _ m s l mn mx hx w) (h _ _ (heap_alloc_new w _) ((Below.refl _ w).alloc (Nat.le_refl _) _) (Nat.le_refl _))
/-- A box is made and at once filled. -/
theorem atI_new28 {d : Nat} {ty2 : TypeId} {pos2 : String} {after2 : Array Edge} (h : wpListIn F n Tryz.prog ops Q (⟨some d, .alloc 27, ty, pos, after, none⟩ :: ⟨none, .store 27 (.tmp d) y, ty2, pos2, after2, none⟩ :: rest) a w) : wpListIn F n Tryz.prog ops Q (⟨some d, .alloc 27, ty, pos, after, none⟩ :: ⟨none, .store 27 (.tmp d) y, ty2, pos2, after2, none⟩ :: rest) a w := h
theorem wlI_new28 {d : Nat} {ty2 : TypeId} {pos2 : String} {after2 : Array Edge} (hF : ∀ f, F.fn f) {m : Int} {s : S4} {l : Value} {mn mx : Int} (hl : l.oneCell' = true) (hd : ∀ u, (a.put (some d) u).eval (.tmp d) = u) (hy : ∀ u, (a.put (some d) u).eval y = reV m s l mn mx) (h : ∀ g w', w'.heap[g]? = some (.cells (reA m s l mn mx) 27 (0, 0)) → Below w.heap.size w w' → w.heap.size ≤ g → wpListIn F n Tryz.prog ops Q rest (a.put (some d) (.pointer (some ⟨g, 0, none⟩))) w') : wpListIn F n Tryz.prog ops Q (⟨some d, .alloc 27, ty, pos, after, none⟩ :: ⟨none, .store 27 (.tmp d) y, ty2, pos2, after2, none⟩ :: rest) a w := by
  refine wlI_val hF (fun c => nofun) (run_alloc28 _ _ _ _ _ w) ?_
  have hg := heap_alloc_new w (.cells (reA 0 noSet (.slice none 0 0) 0 0) 27)
  have e := store28r hg (n' := m) (s' := s) (l' := l) (mn' := mn) (mx' := mx) hl
  refine wlI_skip (w' := (w.alloc (.cells (reA 0 noSet (.slice none 0 0) 0 0) 27)).setRow w.heap.size (reA m s l mn mx)) hF (fun c => nofun) ?_ (h _ _ (setRow_heap _ _ _ _ 27 (0, 0) hg) ?_ (Nat.le_refl _))
  · unfold execOp
    simp only [hd, hy, Instr.storeAt, Instr.sureAddr, Sem.run_bind, Sem.run_pure, Result.andThen_ok, e]
  · refine ⟨rfl, rfl, rfl, by simp, fun k hk => ?_⟩
    rw [setRow_other _ _ _ _ (by omega)]
    exact Below.heap_alloc _ _ _ hk
end
/-- What is a row of cells and not in S lies as it lay. -/
def Kc (S : Nat → Prop) (W W' : World) : Prop := W.heap.size ≤ W'.heap.size ∧ ∀ k cs t fr, ¬ S k → W.heap[k]? = some (.cells cs t fr) → W'.heap[k]? = some (.cells cs t fr)
theorem Kc.refl (S : Nat → Prop) (W : World) : Kc S W W := ⟨Nat.le_refl _, fun _ _ _ _ _ h => h⟩
theorem Kc.trans {S : Nat → Prop} {A B C : World} (h : Kc S A B) (k : Kc S B C) : Kc S A C := ⟨Nat.le_trans h.1 k.1, fun i cs t fr hn e => k.2 i cs t fr hn (h.2 i cs t fr hn e)⟩
theorem Kc.below {S : Nat → Prop} {W W' : World} {B : Nat} (h : Below B W W') (hB : W.heap.size ≤ B) : Kc S W W' := ⟨h.size, fun k cs t fr _ e => by rw [h.block k (by have := (Array.getElem?_eq_some_iff.1 e).1; omega)]; exact e⟩
theorem owns8_kc {S : Nat → Prop} {w w' : World} {base n : Nat} {v : Value} {xs : List Value} (h : w.ownsRow base 27 8 v n xs) (hk : Kc S w w') (hb : ∀ b, v.ownBlock = some b → ¬ S b) : w'.ownsRow base 27 8 v n xs := by
  refine ⟨h.1, ?_⟩
  rcases h.2 with h1 | ⟨g, cap, cur, rfl, h2, h3, h4⟩
  · exact .inl h1
  · exact .inr ⟨g, cap, cur, rfl, h2, hk.2 g _ _ _ (hb g rfl) h3, h4⟩
theorem Kd.kc {S : Nat → Prop} {w w' : World} (hk : Kc S w w') : ∀ {f : Fo} {xs : List Value}, Kd w (fun b => ¬ S b) f xs → Kd w' (fun b => ¬ S b) f xs
  | .nil, _, h => h
  | .cons n kids rest, xs, ⟨v, ys, zs, e, o, p, k1, k2⟩ => ⟨v, ys, zs, e, owns8_kc o hk p, p, Kd.kc hk k1, Kd.kc hk k2⟩
/-- The pattern i of a list. -/
def Fo.nth : Fo → Nat → Tr
  | .nil, _ => (⟨0, noSet, 0, 0⟩, .nil)
  | .cons n k _, 0 => (n, k)
  | .cons _ _ r, i + 1 => r.nth i
/-- How many Res the first i are. -/
def Fo.szTo (f : Fo) : Nat → Nat
  | 0 => 0
  | i + 1 => f.szTo i + szT (f.nth i)
theorem szTo_cons (n : Nd) (k r : Fo) : ∀ i, (Fo.cons n k r).szTo (i + 1) = szT (n, k) + r.szTo i
  | 0 => by simp [Fo.szTo, Fo.nth]
  | i + 1 => by rw [Fo.szTo, szTo_cons n k r i]; simp [Fo.szTo, Fo.nth]; omega
theorem szTo_len : ∀ f : Fo, f.szTo f.len = f.sz
  | .nil => rfl
  | .cons n k r => by rw [Fo.len, szTo_cons, szTo_len r]; simp [szT, Fo.sz]
theorem szTo_le (f : Fo) : ∀ i, i ≤ f.len → f.szTo i ≤ f.sz := by
  have mono : ∀ j i, f.szTo i ≤ f.szTo (i + j) := fun j => by
    induction j with
    | zero => intro i; exact Nat.le_refl _
    | succ j ih => intro i; have := ih i; show _ ≤ f.szTo (i + j) + _; omega
  intro i hi
  have := mono (f.len - i) i
  rw [show i + (f.len - i) = f.len by omega, szTo_len] at this
  exact this
/-- Each one of a list has the property, at its depth. -/
def AllF (Pr : Nat → Nd → Nat → Prop) : Nat → Fo → Prop
  | _, .nil => True
  | d, .cons n k r => Pr d n k.len ∧ AllF Pr (d + 1) k ∧ AllF Pr d r
theorem AllF.nth {Pr : Nat → Nd → Nat → Prop} {d : Nat} : ∀ {f : Fo}, AllF Pr d f → ∀ i, i < f.len → Pr d (f.nth i).1 (f.nth i).2.len ∧ AllF Pr (d + 1) (f.nth i).2
  | .nil, _, i, h => by simp [Fo.len] at h
  | .cons n k r, ⟨h1, h2, h3⟩, 0, _ => ⟨h1, h2⟩
  | .cons n k r, ⟨h1, h2, h3⟩, i + 1, h => AllF.nth h3 i (by simpa [Fo.len] using h)
theorem Kd.nth {w : World} {P : Nat → Prop} : ∀ {f : Fo} {xs : List Value}, Kd w P f xs → ∀ i, i < f.len → ∃ v zs, (∀ j u, (reA (f.nth i).1.k (f.nth i).1.s v (f.nth i).1.mn (f.nth i).1.mx)[j]? = some u → xs[i * 8 + j]? = some u) ∧ w.ownsRow 0 27 8 v (f.nth i).2.len zs ∧ (∀ b, v.ownBlock = some b → P b) ∧ Kd w P (f.nth i).2 zs
  | .nil, _, _, i, h => by simp [Fo.len] at h
  | .cons n k r, xs, ⟨v, ys, zs, e, o, p, k1, k2⟩, 0, _ => ⟨v, zs, fun j u hj => by
      rw [e, Nat.zero_mul, Nat.zero_add]
      have hj' : j < 8 := by
        have := (Array.getElem?_eq_some_iff.1 hj).1
        simpa [reA] using this
      rw [List.getElem?_append_left (by simp [reA]; exact hj')]
      simpa [Fo.nth] using hj, o, p, k1⟩
  | .cons n k r, xs, ⟨v, ys, zs, e, o, p, k1, k2⟩, i + 1, h => by
      obtain ⟨v', zs', h1, h2⟩ := Kd.nth k2 i (by simpa [Fo.len] using h)
      refine ⟨v', zs', fun j u hj => ?_, h2⟩
      rw [e, List.getElem?_append_right (by simp [reA]; omega)]
      have := h1 j u hj
      simp only [reA, List.length_cons, List.length_nil]
      rw [show (i + 1) * 8 + j - (0 + 1 + 1 + 1 + 1 + 1 + 1 + 1 + 1) = i * 8 + j by omega]
      exact this
/-- One that is handed out: how deep it stands, itself, its list's value. -/
structure Em (Pr : Nat → Nd → Nat → Prop) where
  d : Nat
  nd : Nd
  ad : Option Addr
  len : Nat
  cap : Nat
  h : Pr d nd len
def encE {Pr : Nat → Nd → Nat → Prop} (e : Em Pr) : Array Value := #[.int .i64 (e.d : Int), reV e.nd.k e.nd.s (.slice e.ad e.len e.cap) e.nd.mn e.nd.mx]
theorem below_grown {w w' : World} (hb : Below w.heap.size w w') : w.grownBy w' none := ⟨hb.os, hb.tape, hb.output, hb.size, fun k hk _ => hb.block k hk⟩
theorem abides_below {β : Type} {B : Nat} {J : β → World → Prop} (h : AbidesFrom B J) {s : β} {w w' : World} (hs : J s w) (hb : Below w.heap.size w w') : J s w' := h s w w' none hs (below_grown hb) (fun r e => by cases e)
theorem yield_wide {m m' : Nat} {l : Nat} {args : Array Value} {W : World} {R : Ending → World → Prop} (h : YieldAt Fence.wide m Tryz.prog l args W R) : YieldAt Fence.wide m' Tryz.prog l args W R := by
  obtain ⟨fn, tmps, assign, body, h1, h2, h3⟩ := h
  exact ⟨fn, tmps, assign, body, h1, h2, fun c cs _ => h3 c cs (room_wide _)⟩
open Go.RowKit Go.Shelf
set_option linter.unusedVariables false
set_option linter.unusedSimpArgs false
attribute [local go_sem] Oper.semAt_some

theorem cell_row {w : World} {g : Nat} {xs : Array Value} {t : TypeId} (h : w.heap[g]? = some (.cells xs t (0, 0))) (j : Nat) {v : Value} (hv : xs[j]? = some v) : w.cell? ⟨g, j, none⟩ = some v := by rw [cell_of_row w g j _ t (0, 0) h]; exact hv
theorem wide_fn (f : FuncId) : Fence.wide.fn f := by simp [Fence.wide]
theorem round_fn (l : Nat) (f : FuncId) : (Fence.wide.inRound l).fn f := by simp [Fence.wide, Fence.inRound]
theorem len_le_sz : ∀ f : Fo, f.len ≤ f.sz
  | .nil => Nat.le_refl _
  | .cons n k r => by have := len_le_sz r; simp only [Fo.len, Fo.sz]; omega
/-- How giving all of a pattern ends. -/
def GiveP {Pr : Nat → Nd → Nat → Prop} (S : Nat → Prop) (J Jx : List (Em Pr) → World → Prop) (pre : List (Em Pr)) (k : Nat) (W : World) (e : Ending) (W' : World) : Prop :=
  (e = .returned (.bool true) ∧ (∃ xs, xs.length = k ∧ J (pre ++ xs) W') ∧ Kc S W W') ∨ (e = .returned (.bool false) ∧ ∃ p, Jx p W')
set_option maxHeartbeats 8000000 in
set_option maxRecDepth 100000 in
theorem give_in {Pr : Nat → Nd → Nat → Prop} (S : Nat → Prop) (l Y G B0 : Nat) (J Jx : List (Em Pr) → World → Prop) (B : Nat) (hAJ : AbidesFrom B J) (NN : Nat)
    (hYY : ∀ m pre x W1, J pre W1 → pre.length < NN → YieldAt Fence.wide m Tryz.prog l (encE x) W1 fun e W' => (e = .returned (.bool true) ∧ J (pre ++ [x]) W' ∧ Kc S W1 W') ∨ (e = .returned (.bool false) ∧ Jx (pre ++ [x]) W'))
    (hYS : ¬ S Y) (hGS : ¬ S G) (hS : ∀ k, B0 ≤ k → ¬ S k) :
    ∀ N nd kids, szT (nd, kids) ≤ N → ∀ (n d : Nat) (W : World) (pre : List (Em Pr)) (v : Value) (zs : List Value), Hid (Pr d nd kids.len) → AllF Pr (d + 1) kids → W.ownsRow 0 27 8 v kids.len zs → (∀ b, v.ownBlock = some b → ¬ S b) → Kd W (fun b => ¬ S b) kids zs →
      W.heap[Y]? = some (.cells #[.func (.yield l) #[] #[]] 176 (0, 0)) → W.heap[G]? = some (.cells #[.func (.func 121) #[] #[.pointer (some ⟨Y, 0, none⟩), .pointer (some ⟨G, 0, none⟩)]] 176 (0, 0)) → Hid (J pre W) → pre.length + szT (nd, kids) ≤ NN → d + szT (nd, kids) ≤ 10000 → B0 ≤ W.heap.size →
      CallsIn Fence.wide n Tryz.prog 121 #[.int .i64 (d : Int), reV nd.k nd.s v nd.mn nd.mx, .pointer (some ⟨Y, 0, none⟩), .pointer (some ⟨G, 0, none⟩)] W (GiveP S J Jx pre (szT (nd, kids)) W) := by
  intro N
  induction N with
  | zero => intro nd kids h; simp [szT] at h
  | succ N ih =>
    intro nd kids hN n d W pre v zs hPr hA ho hp hk hYb hGb hJ hNN hd hB0
    obtain ⟨ad, cap, rfl, hc1, hc2⟩ := owns8_val ho
    have hpos : 1 ≤ szT (nd, kids) := by simp [szT]
    have hlen : kids.len ≤ 10000 := by have := len_le_sz kids; simp only [szT] at hd; omega
    have hAJ' := hide hAJ
    replace hA := hide hA
    replace hp := hide hp
    replace hk := hide hk
    replace hS := hide hS
    replace ih := hide ih
    replace ho := hide ho
    replace hYYh := hide hYY
    refine callsIn_of_wp Tryz.func121 rfl trivial ?_ rfl
    simp only [Tryz.ntmps121, List.size_toArray, List.length_cons, List.length_nil, Nat.reduceAdd, Nat.reduceSub, Array.replicate_succ, Array.replicate_zero, List.push_toArray, List.append_toArray, List.nil_append, List.cons_append]
    gi_wp2_with (first | ((with_reducible refine atI_box 27 ?_); go_loud (refine wlI_box28 wide_fn rfl ?_; intro g5 w1 hb5 B1 hge; have hJ1 := abides_below hAJ hJ.out B1; have hc1 := Kc.below (S := S) B1 (Nat.le_refl _); have hY1 := hc1.2 Y _ _ _ hYS hYb; have cY := cell_row hY1 0 (v := .func (.yield l) #[] #[]) rfl; obtain ⟨fn, tmps, assign, body, hy, hR⟩ := hYY (n - 1) pre ⟨d, nd, ad, kids.len, cap, hPr.out⟩ w1 hJ1 (by omega); simp only [encE] at hy; replace hb5 := hide hb5; replace B1 := hide B1; replace hJ1 := hide hJ1; replace hc1 := hide hc1; replace hY1 := hide hY1)) | ((with_reducible refine atI_load 176 ?_); refine wlI_load 176 wide_fn rfl (ld70 cY) ?_) | ((with_reducible refine atI_load 27 ?_); refine wlI_load 27 wide_fn rfl (load28 hb5.out) ?_))
    refine ⟨fun h => (by cases h), hR.mono ?_⟩
    rintro e W3 (⟨rfl, hJ3, hk3⟩ | ⟨rfl, hJx3⟩)
    · have hcc : Hid (Kc S W W3) := hc1.out.trans hk3
      have hb3 : Hid (W3.heap[g5]? = some (.cells (reA nd.k nd.s (.slice ad kids.len cap) nd.mn nd.mx) 27 (0, 0))) := hk3.2 g5 _ _ _ (hS.out g5 (by omega)) hb5.out
      have cL := cell_row hb3.out 5 (v := .slice ad kids.len cap) rfl
      have hG3 := hide (hcc.out.2 G _ _ _ hGS hGb)
      have hs3 := hcc.out.1
      have ho3 := hide (owns8_kc ho.out hcc.out hp.out)
      have hkd3 := hide (Kd.kc hcc.out hk.out)
      replace hk3 := hide hk3
      replace hJ3 := hide hJ3
      clear hy hR cY
      gi_wp2_with (first | ((with_reducible refine atI_load 25 ?_); refine wlI_load 25 wide_fn rfl (ld26 cL) ?_))
      gi_loopw [17] (fun i wr => ∃ k xs, i = .int .i64 ((k : Nat) : Int) ∧ k ≤ kids.len ∧ Hid (xs.length = 1 + kids.szTo k) ∧ Hid (J (pre ++ xs) wr) ∧ Hid (Kc S W3 wr)) (fun i _ => kids.len - (intOf i).toNat)
      case atStart => exact ⟨0, [⟨d, nd, ad, kids.len, cap, hPr.out⟩], rfl, Nat.zero_le _, (rfl : _ = _), hJ3, Kc.refl _ _⟩
      case round =>
        obtain ⟨k, xs, rfl, hkl, hxs, hJr, hkr⟩ := hrel
        by_cases hlt : k < kids.len
        · have i1 : (k : Int) < (kids.len : Int) := by omega
          have hltH := hide hlt
          have hor := owns8_kc ho3.out hkr.out hp.out
          have hkdr := Kd.kc hkr.out hkd3.out
          obtain ⟨cv, czs, hcells, cho, chp, chk⟩ := Kd.nth hkdr k hlt
          obtain ⟨cPr, cA⟩ := AllF.nth hA.out k hlt
          have hsz1 := szTo_le kids (k + 1) (by omega)
          have hsz2 : kids.szTo (k + 1) = kids.szTo k + szT (kids.nth k) := rfl
          generalize kids.nth k = ch at hcells cho chp chk cPr cA hsz2
          obtain ⟨cnd, ckids⟩ := ch
          simp only at hcells cho chp chk cPr cA
          have hb : ∃ b, ad = some ⟨b, 0, none⟩ ∧ ∀ j u, (reA cnd.k cnd.s cv cnd.mn cnd.mx)[j]? = some u → wr.cell? ⟨b, k * 8 + j, none⟩ = some u := by
            rcases hor.2 with ⟨h1, h2⟩ | ⟨g, cap', cur, hv, _⟩
            · omega
            · cases hv
              refine ⟨g, rfl, fun j u hj => ?_⟩
              have := hor.cells (g := g) rfl _ _ (hcells j u hj)
              rwa [add_plain, Nat.zero_add] at this
          obtain ⟨b, rfl, hcell⟩ := hb
          obtain ⟨ca, cc, hcv, _, _⟩ := owns8_val cho
          subst hcv
          have hl28 := hide (load28c hcell)
          have hsz3 : szT (nd, kids) = 1 + kids.sz := rfl
          have hGr := hkr.out.2 G _ _ _ hGS hG3.out
          have hYr := hkr.out.2 Y _ _ _ hYS (hk3.out.2 Y _ _ _ hYS hY1.out)
          have hsr := hkr.out.1
          have hxl := hxs.out
          replace hcells := hide hcells
          replace hcell := hide hcell
          replace cho := hide cho
          replace chp := hide chp
          replace chk := hide chk
          replace cPr := hide cPr
          replace cA := hide cA
          replace hor := hide hor
          replace hkdr := hide hkdr
          replace hGr := hide hGr
          replace hYr := hide hYr
          gi_wp2_with (first | ((with_reducible refine atI_load 27 ?_); refine wlI_load 27 wide_fn rfl (hl28.out) ?_) | ((with_reducible refine atI_new28 ?_); refine wlI_new28 wide_fn rfl (fun _ => rfl) (fun _ => rfl) ?_; intro g8 w8 hb8 B8 hg8; have hk8 := hide (Kc.below (S := S) B8 (Nat.le_refl _)); have cG := cell_row (hk8.out.2 G _ _ _ hGS hGr.out) 0 (v := .func (.func 121) #[] #[.pointer (some ⟨Y, 0, none⟩), .pointer (some ⟨G, 0, none⟩)]) rfl; have hl8 := hide (load28 hb8); replace hb8 := hide hb8; replace B8 := hide B8) | ((with_reducible refine atI_load 176 ?_); refine wlI_load 176 wide_fn rfl (ld70 cG) ?_) | ((with_reducible refine atI_load 27 ?_); refine wlI_load 27 wide_fn rfl (hl8.out) ?_))
          have hs8 := B8.out.size
          refine ⟨trivial, fun h => (by cases h), (ih.out cnd ckids (by omega) _ (d + 1) w8 (pre ++ xs) _ czs cPr.out cA.out (owns8_kc cho.out hk8.out chp.out) chp.out (Kd.kc hk8.out chk.out) (hk8.out.2 Y _ _ _ hYS hYr.out) (hk8.out.2 G _ _ _ hGS hGr.out) (abides_below hAJ hJr.out B8.out) (by rw [List.length_append]; omega) (by omega) (by omega)).mono ?_⟩
          rintro e W9 (⟨rfl, ⟨ys, hys, hJ9⟩, hk9⟩ | ⟨rfl, p, hJx9⟩)
          · have hJ10 : Hid (J (pre ++ (xs ++ ys)) W9) := by
              have := hJ9
              rw [List.append_assoc] at this
              exact this
            have hk10 : Hid (Kc S W3 W9) := hkr.out.trans (hk8.out.trans hk9)
            have hl10 : Hid ((xs ++ ys).length = 1 + kids.szTo (k + 1)) := by
              show (xs ++ ys).length = _
              rw [List.length_append, hxl, hys, hsz2]; omega
            clear hJ9 hk9 hys
            gi_wp2
            go_roundw
            case rel => exact ⟨k + 1, xs ++ ys, by go_num, hltH.out, hl10, hJ10, hk10⟩
            case measure => have := hltH.out; simp [intOf]; omega
          · gi_wp2
            go_ret
            exact .inr ⟨rfl, _, hJx9⟩
        · obtain rfl : k = kids.len := by omega
          gi_wp2
          go_ret
          exact .inl ⟨rfl, ⟨xs, by rw [hxs.out, szTo_len]; rfl, hJr.out⟩, hcc.out.trans hkr.out⟩
    · gi_wp2
      go_ret
      exact .inr ⟨rfl, _, hJx3⟩
set_option maxHeartbeats 4000000 in
theorem within_in (n : Nat) (k : Int) (s : S4) (l : Value) (mn mx : Int) (w : World) :
    CallsIn Fence.wide n Tryz.prog 89 #[reV k s l mn mx] w fun e w' => ∃ g, e = .returned (.func (.func 120) #[] #[.pointer (some ⟨g, 0, none⟩)]) ∧ w'.heap[g]? = some (.cells (reA k s l mn mx) 27 (0, 0)) ∧ Below w.heap.size w w' ∧ w.heap.size ≤ g := by
  have hmf : ∀ (fn : Fn) (first cap : Array Value) (w : World), (Instr.makeFunc fn first cap).run Tryz.prog w = .ok (.func fn first cap) w := fun _ _ _ _ => rfl
  refine callsIn_of_wp Tryz.func89 rfl trivial ?_ rfl
  simp only [Tryz.ntmps89, List.size_toArray, List.length_cons, List.length_nil, Nat.reduceAdd, Nat.reduceSub, Array.replicate_succ, Array.replicate_zero, List.push_toArray, List.append_toArray, List.nil_append, List.cons_append]
  gi_wp2_with (first | ((with_reducible refine atI_box 27 ?_); refine wlI_box28 wide_fn rfl ?_; intro g w1 hb B1 hge; replace hb := hide hb))
  go_ret
  exact ⟨g, rfl, hb.out, B1, hge⟩
theorem run_st70 {w : World} {g : Nat} {u : Value} {f : Fn} {xs ys : Array Value} (h : w.heap[g]? = some (.cells #[u] 176 (0, 0))) : (storeVar 176 ⟨g, 0, none⟩ (.func f xs ys)).run Tryz.prog w = .ok () (w.setCell ⟨g, 0, none⟩ (.func f xs ys)) := by
  have hc := cell_row h 0 (v := u) rfl
  have hf := frozen_of_row w g 0 _ 176 h
  have e : (storeCells ⟨g, 0, none⟩ [.func f xs ys]).run Tryz.prog w = .ok () (w.setCell ⟨g, 0, none⟩ (.func f xs ys)) := by simp [storeCells, go_sem, run_store Tryz.prog w _ (.func f xs ys) _ rfl, stored, hc, hf]
  have o70 : ∀ w, (sizeOf 176).run Tryz.prog w = .ok 1 w := fun w => by kernel_rfl
  have e4 : (Value.func f xs ys).cells = #[.func f xs ys] := rfl
  unfold storeVar
  simp only [Sem.run_bind, o70, Result.andThen_ok, e4]
  simpa using e
section
variable {F : Fence} {n : Nat} {w w' : World} {ops : Array Oper} {rest : List Oper} {a : Act} {Q : Exit → Act → World → Prop} {dst : Option Nat} {x y : Operand} {ty : TypeId} {pos : String} {after : Array Edge}
theorem wlI_box70 (hF : ∀ f, F.fn f) {f : Fn} {xs ys : Array Value} (hx : a.eval x = .func f xs ys) (h : ∀ g w', w'.heap[g]? = some (.cells #[.func f xs ys] 176 (0, 0)) → Below w.heap.size w w' → w.heap.size ≤ g → wpListIn F n Tryz.prog ops Q rest (a.put dst (.pointer (some ⟨g, 0, none⟩))) w') : wpListIn F n Tryz.prog ops Q (⟨dst, .box 176 x, ty, pos, after, none⟩ :: rest) a w := by
  have e : (execOp a.eval ⟨dst, .box 176 x, ty, pos, after, none⟩).run Tryz.prog w = .ok (.value (.pointer (some ⟨w.heap.size, 0, none⟩))) (w.alloc (.cells #[.func f xs ys] 176)) := by
    unfold execOp
    simp only [hx]
    kernel_rfl
  exact wlI_val hF (fun c => nofun) e (h _ _ (heap_alloc_new w _) ((Below.refl _ w).alloc (Nat.le_refl _) _) (Nat.le_refl _))
theorem atI_alloc (t : TypeId) (h : wpListIn F n Tryz.prog ops Q (⟨dst, .alloc t, ty, pos, after, none⟩ :: rest) a w) : wpListIn F n Tryz.prog ops Q (⟨dst, .alloc t, ty, pos, after, none⟩ :: rest) a w := h
theorem atI_store (t : TypeId) (h : wpListIn F n Tryz.prog ops Q (⟨none, .store t x y, ty, pos, after, none⟩ :: rest) a w) : wpListIn F n Tryz.prog ops Q (⟨none, .store t x y, ty, pos, after, none⟩ :: rest) a w := h
theorem wlI_alloc70 (hF : ∀ f, F.fn f) (h : ∀ g w', w'.heap[g]? = some (.cells #[.nilFunc] 176 (0, 0)) → Below w.heap.size w w' → w.heap.size ≤ g → wpListIn F n Tryz.prog ops Q rest (a.put dst (.pointer (some ⟨g, 0, none⟩))) w') : wpListIn F n Tryz.prog ops Q (⟨dst, .alloc 176, ty, pos, after, none⟩ :: rest) a w :=
  wlI_val hF (fun c => nofun) (run_alloc70 w) (h _ _ (heap_alloc_new w _) ((Below.refl _ w).alloc (Nat.le_refl _) _) (Nat.le_refl _))
theorem wlI_st70 (hF : ∀ f, F.fn f) {g : Nat} {u : Value} {f : Fn} {xs ys : Array Value} (hg : w.heap[g]? = some (.cells #[u] 176 (0, 0))) (hx : a.eval x = .pointer (some ⟨g, 0, none⟩)) (hy : a.eval y = .func f xs ys) (h : ∀ w', w'.heap[g]? = some (.cells #[.func f xs ys] 176 (0, 0)) → But (fun k => k = g) w w' → wpListIn F n Tryz.prog ops Q rest a w') : wpListIn F n Tryz.prog ops Q (⟨none, .store 176 x y, ty, pos, after, none⟩ :: rest) a w := by
  refine wlI_skip (w' := w.setCell ⟨g, 0, none⟩ (.func f xs ys)) hF (fun c => nofun) ?_ (h _ ?_ ?_)
  · unfold execOp
    simp only [hx, hy, Instr.storeAt, Instr.sureAddr, Sem.run_bind, Sem.run_pure, Result.andThen_ok, run_st70 hg]
  · exact heap_setCell_same w g 0 _ 176 _ hg
  · exact ⟨rfl, rfl, rfl, by simp [World.setCell], fun k hk hn => Below.heap_setCell w ⟨g, 0, none⟩ _ k hn⟩
end
set_option maxHeartbeats 4000000 in
set_option maxRecDepth 100000 in
theorem within_stops {Pr : Nat → Nd → Nat → Prop} (S : Nat → Prop) (n : Nat) (B : Nat) (t : Tr) (v : Value) (zs : List Value) (w : World) (hB : w.heap[B]? = some (.cells (reA t.1.k t.1.s v t.1.mn t.1.mx) 27 (0, 0))) (ho : w.ownsRow 0 27 8 v t.2.len zs) (hp : ∀ b, v.ownBlock = some b → ¬ S b) (hk : Kd w (fun b => ¬ S b) t.2 zs) (hPr : Pr 1 t.1 t.2.len) (hA : AllF Pr 2 t.2) (hsz : szT t ≤ 9000) (hBS : ¬ S B) (hS : ∀ k, w.heap.size ≤ k → ¬ S k) :
    SeqStopsK Fence.wide n Tryz.prog 120 #[.pointer (some ⟨B, 0, none⟩)] (encE (Pr := Pr)) (Kc S) (fun xs => xs.length = szT t) (fun _ => True) (szT t) w := fun l J Jx W hW hAJ hAJx hYY h0 => by
  obtain ⟨nd, kids⟩ := t
  simp only at *
  have hmf : ∀ (fn : Fn) (first cap : Array Value) (w : World), (Instr.makeFunc fn first cap).run Tryz.prog w = .ok (.func fn first cap) w := fun _ _ _ _ => rfl
  have hBl : B < w.heap.size := (Array.getElem?_eq_some_iff.1 hB).1
  have hsw := hW.size
  have kW : Hid (Kc S w W) := Kc.below hW (Nat.le_refl _)
  obtain ⟨va, vc, hv, _, _⟩ := owns8_val ho
  subst hv
  replace hYY : Hid _ := hide hYY
  replace ho := hide ho
  replace hp := hide hp
  replace hk := hide hk
  replace hPr := hide hPr
  replace hA := hide hA
  replace hS := hide hS
  replace hW := hide hW
  replace hAJh := hide hAJ
  replace h0 := hide h0
  show CallsIn Fence.wide n Tryz.prog 120 #[.func (.yield l) #[] #[], .pointer (some ⟨B, 0, none⟩)] W _
  refine callsIn_of_wp Tryz.func120 rfl trivial ?_ rfl
  simp only [Tryz.ntmps120, List.size_toArray, List.length_cons, List.length_nil, Nat.reduceAdd, Nat.reduceSub, Array.replicate_succ, Array.replicate_zero, List.push_toArray, List.append_toArray, List.nil_append, List.cons_append]
  gi_wp2_with (first | ((with_reducible refine atI_box 176 ?_); refine wlI_box70 wide_fn rfl ?_; intro Y w1 hbY B1 hgY; replace hbY := hide hbY; replace B1 := hide B1) | ((with_reducible refine atI_alloc 176 ?_); refine wlI_alloc70 wide_fn ?_; intro G w2 hbG B2 hgG; replace hbG := hide hbG; replace B2 := hide B2) | ((with_reducible refine atI_store 176 ?_); refine wlI_st70 wide_fn hbG.out rfl rfl ?_; intro w3 hbG3 B3; have hs1 := B1.out.size; have hs2 := B2.out.size; have hl1 := (Array.getElem?_eq_some_iff.1 hbY.out).1; have hY2 : Hid (w2.heap[Y]? = some (.cells #[.func (.yield l) #[] #[]] 176 (0, 0))) := (B2.out.block Y hl1).trans hbY.out; have hY3 : Hid (w3.heap[Y]? = some (.cells #[.func (.yield l) #[] #[]] 176 (0, 0))) := (B3.block Y (by omega) (by omega)).trans hY2.out; have BW : Hid (Below W.heap.size W w3) := (B1.out.trans (B2.out.mono hs1)).trans (B3.below (by omega) (fun k e => by omega)); have k3 : Hid (Kc S w w3) := kW.out.trans (Kc.below BW.out (Nat.le_refl _)); have hB3 := k3.out.2 B _ _ _ hBS hB; have cG := cell_row hbG3 0 (v := .func (.func 121) #[] #[.pointer (some ⟨Y, 0, none⟩), .pointer (some ⟨G, 0, none⟩)]) rfl; replace hbG3 := hide hbG3; have hl28 := hide (load28 hB3); replace hB3 := hide hB3; replace B3 := hide B3) | ((with_reducible refine atI_load 176 ?_); refine wlI_load 176 wide_fn rfl (ld70 cG) ?_) | ((with_reducible refine atI_load 27 ?_); refine wlI_load 27 wide_fn rfl (hl28.out) ?_))
  have hs3 := BW.out.size
  refine ⟨trivial, fun h => (by cases h), (give_in S l Y G w.heap.size J Jx W.heap.size hAJ (szT (nd, kids)) (fun m pre x W1 hj hl => yield_wide (hYY.out pre x W1 hj hl)) (hS.out Y (by omega)) (hS.out G (by omega)) hS.out (szT (nd, kids)) nd kids (Nat.le_refl _) _ 1 w3 [] _ zs hPr.out hA.out (owns8_kc ho.out k3.out hp.out) hp.out (Kd.kc k3.out hk.out) hY3.out hbG3.out (abides_below hAJ h0.out BW.out) (by simp) (by omega) (by omega)).mono ?_⟩
  rintro e W9 (⟨rfl, ⟨ys, hys, hJ9⟩, hk9⟩ | ⟨rfl, p, hJx9⟩)
  · replace hJ9 := hide hJ9
    clear hk9
    gi_wp2
    go_end0
    exact ⟨⟨_, rfl⟩, .inl ⟨ys, hys, by simpa using hJ9.out⟩⟩
  · replace hJx9 := hide hJx9
    gi_wp2
    go_end0
    exact ⟨⟨_, rfl⟩, .inr ⟨p, trivial, hJx9.out⟩⟩
end Go.Proofs.YtkfdikpnnkbgaaaGreatDoor
