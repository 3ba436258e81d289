/-
  led, and its iterator: where a byte leads from where a program stands.
-/
import Derived.Test.YtkfdikpnnkbgaaaGreatDoorSL
import Derived.Test.YtkfdikpnnkbgaaaGreatDoorSD
import Derived.Test.YtkfdikpnnkbgaaaGreatDoorSA
namespace Go.Proofs.YtkfdikpnnkbgaaaGreatDoor
open Go.RowKit Go.Shelf
set_option linter.unusedVariables false
set_option linter.unusedSimpArgs false
attribute [local go_sem] Oper.semAt_some

/-- Where a byte leads from an instruction. -/
def ldx (L : List Ins) (b : Nat) (i : Nat) : Option Nat := match L[i]? with
  | some q => if q.op = 1 ∧ inS q.s b = true then some q.x.toNat else none
  | none => none
def ldl (L : List Ins) (b : Nat) (M : List Nat) : List Nat := M.filterMap (ldx L b)
theorem ldl_snoc (L : List Ins) (b : Nat) (M : List Nat) (i : Nat) : ldl L b (M ++ [i]) = ldl L b M ++ (match ldx L b i with | some z => [z] | none => []) := by
  simp only [ldl, List.filterMap_append, List.filterMap_cons, List.filterMap_nil]
  cases ldx L b i <;> rfl
theorem ldl_le (L : List Ins) (b : Nat) (M : List Nat) : (ldl L b M).length ≤ M.length := List.length_filterMap_le _ _
theorem ldx_no {L : List Ins} {b i : Nat} {q : Ins} (h : L[i]? = some q) (hn : ¬ (q.op = 1 ∧ inS q.s b = true)) : ldx L b i = none := by unfold ldx; rw [h]; exact if_neg hn
theorem ldx_yes {L : List Ins} {b i : Nat} {q : Ins} (h : L[i]? = some q) (hn : q.op = 1 ∧ inS q.s b = true) : ldx L b i = some q.x.toNat := by unfold ldx; rw [h]; exact if_pos hn
set_option maxHeartbeats 1000000 in
theorem led_in (n : Nat) (al : Option Addr) (m c : Nat) (ad : Addr) (b : Nat) (w : World) : CallsIn Fence.wide n Tryz.prog 55 #[.slice al m c, .pointer (some ad), .int .u8 (b : Int)] w fun e w' => ∃ gA gL gb, e = .returned (.func (.func 84) #[] #[.pointer (some ⟨gA, 0, none⟩), .pointer (some ⟨gL, 0, none⟩), .pointer (some ⟨gb, 0, none⟩)]) ∧ w'.heap[gA]? = some (.cells #[.pointer (some ad)] 114 (0, 0)) ∧ w'.heap[gL]? = some (.cells #[.slice al m c] 30 (0, 0)) ∧ w'.heap[gb]? = some (.cells #[.int .u8 (b : Int)] 5 (0, 0)) ∧ Below w.heap.size w w' ∧ w.heap.size ≤ gA ∧ w.heap.size ≤ gL ∧ w.heap.size ≤ gb := by
  have hmf : ∀ (fn : Fn) (first cap : Array Value) (w : World), (Instr.makeFunc fn first cap).run Tryz.prog w = .ok (.func fn first cap) w := fun _ _ _ _ => rfl
  have H := (((St.start Nope w).alloc 30 #[.slice al m c]).alloc 114 #[.pointer (some ad)]).alloc 5 #[.int .u8 (b : Int)]
  have g0 := H.get 0 rfl
  have g1 := H.get 1 rfl
  have g2 := H.get 2 rfl
  replace g0 := hide g0
  replace g1 := hide g1
  replace g2 := hide g2
  refine callsIn_of_wp Tryz.func55 rfl trivial ?_ rfl
  simp only [Tryz.ntmps55, List.size_toArray, List.length_cons, List.length_nil, Nat.reduceAdd, Nat.reduceSub, Array.replicate_succ, Array.replicate_zero, List.push_toArray, List.append_toArray, List.nil_append, List.cons_append]
  gi_wp2
  go_ret
  exact ⟨_, _, _, rfl, by simpa using g1.out, by simpa using g2.out, by simpa using g0.out, H.below, by omega, by omega, by omega⟩
theorem own_up {β : Type} {B B' : Nat} {J : β → World → Prop} (h : OwnFrom B J) (hB : B ≤ B') : OwnFrom B' J := fun s A A' row hs hg hr => h s A A' row hs hg (fun r e => ⟨by have := (hr r e).1; omega, (hr r e).2⟩)
theorem own_below {β : Type} {B : Nat} {J : β → World → Prop} (h : OwnFrom B J) {s : β} {W W' : World} (hs : J s W) (hb : Below W.heap.size W W') : J s W' := h s W W' none hs (below_grown hb) (fun r e => by cases e)
theorem keeps_below {B : Nat} {W W' : World} (hb : Below W.heap.size W W') : KeepsFrom B W W' := ⟨hb.size, fun k o _ h _ => (hb.block k (Array.getElem?_eq_some_iff.1 h).1).trans h⟩
theorem cell_get' {w : World} {b o : Nat} {u : Value} (h : w.cell? ⟨b, o, none⟩ = some u) : ∃ cur t fr, w.heap[b]? = some (.cells cur t fr) ∧ cur[o]? = some u := by
  unfold World.cell? at h
  simp only at h
  split at h
  · rename_i cs t fr hb
    exact ⟨cs, t, fr, hb, by simpa using h⟩
  · simp at h
theorem set_in_ins {q : Ins} {j : Nat} {u : Value} (h : (setA q.s)[j]? = some u) : (insA q)[1 + j]? = some u := by
  have hj : j < 4 := by have := (Array.getElem?_eq_some_iff.1 h).1; simpa [setA] using this
  rcases (show j = 0 ∨ j = 1 ∨ j = 2 ∨ j = 3 by omega) with rfl | rfl | rfl | rfl <;> exact h
theorem load24m {w : World} {b o : Nat} {s : S4} (h : ∀ j u, (setA s)[j]? = some u → w.cell? ⟨b, o + j, none⟩ = some u) : (loadVar 24 ⟨b, o, none⟩).run Tryz.prog w = .ok (setV s) w := by
  have := run_loadVar_mid (P := Tryz.prog) w b o 24 (setA s).toList _ (fun j v hv => h j v (by simpa using hv)) Tryz.underlying24 rfl (by rw [size25]; rfl)
  simpa [setV] using this
theorem HsI.kc {X Y : Nat → Prop} {w w' : World} {ad : Option Addr} {L : List Ins} (h : HsI w Y ad L) (hk : Kc X w w') (hY : ∀ k, Y k → ¬ X k) : HsI w' Y ad L := by
  rcases h with rfl | ⟨b, off, cur, t, fr, rfl, hy, hb, hc⟩
  · exact .inl rfl
  · exact .inr ⟨b, off, cur, t, fr, rfl, hy, hk.2 b _ _ _ (hY b hy) hb, hc⟩
theorem Tab.kc {X : Nat → Prop} {w w' : World} (h : Tab w) (hk : Kc X w w') (h0 : ¬ X 0) : Tab w' := fun i hi => by
  have h1 := h i hi
  obtain ⟨cur, t, fr, hb, hc⟩ := cell_get' h1
  rw [cell_of_row w' 0 i cur t fr (hk.2 0 _ _ _ h0 hb)]
  exact hc
theorem Tab.blk {w : World} (h : Tab w) : ∃ cur t fr, w.heap[0]? = some (.cells cur t fr) := by
  obtain ⟨cur, t, fr, hb, hc⟩ := cell_get' (h 0 (by decide))
  exact ⟨cur, t, fr, hb⟩
theorem ko_kc {X : Nat → Prop} {w w' : World} (h : Tab w) (hk : Kc X w w') (h0 : ¬ X 0) : KO 1 (fun _ => False) w w' := ⟨hk.1, fun k hk1 _ _ => by
  obtain rfl : k = 0 := by omega
  obtain ⟨cur, t, fr, hb⟩ := h.blk
  rw [hb]
  exact hk.2 0 _ _ _ h0 hb⟩
/-- What lies still while led's iterator goes on. -/
structure LdI (X : Nat → Prop) (V : World) (gy l : Nat) (W : World) : Prop where
  kc : Kc X V W
  y : W.heap[gy]? = some (.cells #[.func (.yield l) #[] #[]] 142 (0, 0))
theorem kc_grown {X : Nat → Prop} {B : Nat} {W W' : World} {row : Option Nat} (hg : W.grownBy W' row) (hr : ∀ r, row = some r → B ≤ r ∧ ∃ o : Obj, W.heap[r]? = some o ∧ o.isCells = false) : Kc X W W' := ⟨hg.size, fun k cs t fr _ e => (hg.block k (Array.getElem?_eq_some_iff.1 e).1 (fun e2 => by
  obtain ⟨_, o, ho, hc⟩ := hr k e2.symm
  rw [e] at ho
  cases ho
  cases hc)).trans e⟩
theorem LdI.kc2 {X : Nat → Prop} {V : World} {gy l : Nat} {W W' : World} (h : LdI X V gy l W) (hk : Kc X W W') (hy : ¬ X gy) : LdI X V gy l W' := ⟨h.kc.trans hk, hk.2 gy _ _ _ hy h.y⟩
section
variable {F : Fence} {n : Nat} {w w' : World} {ops : Array Oper} {rest : List Oper} {a : Act} {Q : Exit → Act → World → Prop} {dst : Option Nat} {x y : Operand} {ty : TypeId} {pos : String} {after : Array Edge}
theorem wlI_box129 (hF : ∀ f, F.fn f) {f : Fn} {xs ys : Array Value} (hx : a.eval x = .func f xs ys) (h : ∀ g w', w'.heap[g]? = some (.cells #[.func f xs ys] 142 (0, 0)) → Below w.heap.size w w' → w.heap.size ≤ g → wpListIn F n Tryz.prog ops Q rest (a.put dst (.pointer (some ⟨g, 0, none⟩))) w') : wpListIn F n Tryz.prog ops Q (⟨dst, .box 142 x, ty, pos, after, none⟩ :: rest) a w := by
  have e : (execOp a.eval ⟨dst, .box 142 x, ty, pos, after, none⟩).run Tryz.prog w = .ok (.value (.pointer (some ⟨w.heap.size, 0, none⟩))) (w.alloc (.cells #[.func f xs ys] 142)) := by
    unfold execOp
    simp only [hx]
    kernel_rfl
  exact wlI_val hF (fun c => nofun) e (h _ _ (heap_alloc_new w _) ((Below.refl _ w).alloc (Nat.le_refl _) _) (Nat.le_refl _))
end
set_option maxHeartbeats 8000000 in
set_option maxRecDepth 100000 in
theorem led_stops {Pr : Nat → Prop} (X : Nat → Prop) (n : Nat) (h3 : 3 ≤ n) (gA gL gb g : Nat) (pre : Array Value) (t : TypeId) (W : List Nat) (hW : OkW W) (ad : Option Addr) (c : Nat) (L : List Ins) (b : Nat) (hb : b < 256) (w : World)
    (hA : w.heap[gA]? = some (.cells #[.pointer (some ⟨g, pre.size, none⟩)] 114 (0, 0))) (hLb : w.heap[gL]? = some (.cells #[.slice ad L.length c] 30 (0, 0))) (hbb : w.heap[gb]? = some (.cells #[.int .u8 (b : Int)] 5 (0, 0))) (hg : w.heap[g]? = some (.cells (pA pre W) t (0, 0))) (hT : Tab w)
    (hI : HsI w (fun k => ¬ X k) ad L) (hok : ∀ q ∈ L, OkS q.s) (hG : GoL L) (hin : ∀ i, inW W i = true → i < L.length)
    (h0 : ¬ X 0) (kL : ¬ X gL) (kb : ¬ X gb) (hX : ∀ k, w.heap.size ≤ k → ¬ X k) (hPr : ∀ z ∈ ldl L b (mems W), Pr z) :
    SeqO Fence.wide n Tryz.prog 84 #[.pointer (some ⟨gA, 0, none⟩), .pointer (some ⟨gL, 0, none⟩), .pointer (some ⟨gb, 0, none⟩)] (encN (Pr := Pr)) (Kc X) (fun xs => xs.map (·.1) = ldl L b (mems W)) (fun _ => True) ((mems W).length + 1) w := fun l J Jx V hV hJ hJx hYY hJ0 => by
  have hs0 := hV.size
  have lA := (Array.getElem?_eq_some_iff.1 hA).1
  have lL := (Array.getElem?_eq_some_iff.1 hLb).1
  have lb := (Array.getElem?_eq_some_iff.1 hbb).1
  have cA := cell_row ((hV.block gA lA).trans hA) 0 (v := .pointer (some ⟨g, pre.size, none⟩)) rfl
  have hLV : Hid (V.heap[gL]? = some (.cells #[.slice ad L.length c] 30 (0, 0))) := (hV.block gL lL).trans hLb
  have hbV : Hid (V.heap[gb]? = some (.cells #[.int .u8 (b : Int)] 5 (0, 0))) := (hV.block gb lb).trans hbb
  have hgV : Hid (V.heap[g]? = some (.cells (pA pre W) t (0, 0))) := (hV.block g (Array.getElem?_eq_some_iff.1 hg).1).trans hg
  have hTV : Hid (Tab V) := hT.below hV
  have hIV : Hid (HsI V (fun k => ¬ X k) ad L) := hI.kept (fun k _ hk => hV.block k hk) (fun k _ h => h)
  replace hYY := hide hYY
  replace hJ := hide hJ
  replace hJx := hide hJx
  replace hJ0 := hide hJ0
  replace hok := hide hok
  replace hG := hide hG
  replace hin := hide hin
  replace hW := hide hW
  replace hX := hide hX
  replace hPr := hide hPr
  clear hA hLb hbb hg hT hI hV
  show CallsIn Fence.wide n Tryz.prog 84 #[.func (.yield l) #[] #[], .pointer (some ⟨gA, 0, none⟩), .pointer (some ⟨gL, 0, none⟩), .pointer (some ⟨gb, 0, none⟩)] V _
  refine callsIn_of_wp_marks Tryz.func84 rfl trivial ?_ rfl
  simp only [Tryz.ntmps84, List.size_toArray, List.length_cons, List.length_nil, Nat.reduceAdd, Nat.reduceSub, Array.replicate_succ, Array.replicate_zero, List.push_toArray, List.append_toArray, List.nil_append, List.cons_append]
  gi_wp2_with (first | ((with_reducible refine atI_box 142 ?_); refine wlI_box129 wide_fn rfl ?_; intro gy w1 hy1 B1 n1; have cA1 := (B1.cell (p := ⟨gA, 0, none⟩) (by show gA < V.heap.size; omega)).trans cA; clear cA; replace hy1 := hide hy1; replace B1 := hide B1) | ((with_reducible refine atI_load 114 ?_); refine wlI_load 114 wide_fn rfl (ld105 cA1) ?_))
  refine ⟨trivial, fun h => (by cases h), (all_in _ _ _).mono ?_⟩
  rintro e w2 ⟨gB, rfl, hbB, B2, hgB⟩
  have hs1 := B1.out.size
  have hs2 := B2.size
  have BV : Below V.heap.size V w2 := B1.out.trans (B2.mono hs1)
  have ly := (Array.getElem?_eq_some_iff.1 hy1.out).1
  have hyX : Hid (¬ X gy) := hX.out gy (by omega)
  have I0 : LdI X V gy l w2 := ⟨Kc.below BV (Nat.le_refl _), (B2.block gy ly).trans hy1.out⟩
  have hst := all_stops (Pr := fun i => i < L.length ∧ i ∈ mems W) 1 (fun _ => False) (n - 1) gB g pre t W hW.out w2 hbB ((BV.block g (Array.getElem?_eq_some_iff.1 hgV.out).1).trans hgV.out) (hTV.out.below BV) (by decide) (fun h => h) (fun i hi => ⟨hin.out i ((mem_mems hW.out i).1 hi), hi⟩)
  have J0 : J [] w2 := own_below hJ.out hJ0.out BV
  clear cA1
  replace B2 := hide B2
  replace hbB := hide hbB
  replace BV := hide BV
  gi_wp2
  refine wpIn_rangeFunc_ownH rfl (by omega) (gf := 82) (lb := #[.pointer (some ⟨gB, 0, none⟩)]) rfl (wide_fn 82) (enters_of Tryz.func82 (by kernel_rfl) rfl)
    hst (fun h k => h.trans k) (fun Wd l o o' hl ho hc _ => ⟨by simp [World.putObj], fun k hk hlt hX => (grownBy_putObj' Wd l o').block k hlt (fun h => by cases h; omega)⟩) (Below.refl _ w2) (fun _ => rfl)
    (fun pr Wd => ∃ xs : List { z : Nat // Pr z }, xs.map (·.1) = ldl L b (pr.map (·.1)) ∧ J xs Wd ∧ LdI X V gy l Wd)
    (fun cc pr Wd => cc = .ret ∧ ∃ p, Jx p Wd)
    (fun pr Wd Wd' row hs hg' hr => by
      obtain ⟨xs, e1, e2, e3⟩ := hs
      exact ⟨xs, e1, own_up hJ.out (by omega) _ _ _ _ e2 hg' hr, e3.kc2 (kc_grown hg' hr) hyX.out⟩)
    (fun cc pr Wd Wd' row hs hg' hr => ⟨hs.1, hs.2.elim fun p hp => ⟨p, own_up hJx.out (by omega) _ _ _ _ hp hg' hr⟩⟩) ⟨[], rfl, J0, I0⟩
    (fun i a' Wd => ∃ (u6 u7 u8 u9 u10 u11 u12 u13 u14 u15 u16 u17 u18 u19 u20 u21 u22 u23 u24 u25 u26 u27 u28 u29 u30 u31 u32 u33 u34 : Value), a' = { tmps := #[.func (.yield l) #[] #[], .pointer (some ⟨gA, 0, none⟩), .pointer (some ⟨gL, 0, none⟩), .pointer (some ⟨gb, 0, none⟩), .pointer (some ⟨gy, 0, none⟩), .int .i64 (i.1 : Int), u6, u7, u8, u9, u10, u11, u12, u13, u14, u15, u16, u17, u18, u19, u20, u21, u22, u23, u24, u25, u26, u27, u28, u29, u30, u31, u32, u33, u34], defers := [] })
    (fun x a' _ Wd Wd' row hs hg' hr => hs) ?assign ?body ?done ?stop
  case assign =>
    intro l2 pr x Wd K hi hK
    simp only [encN, List.zip_toArray, List.zip_cons_cons, List.zip_nil_left, List.zip_nil_right, List.foldl_toArray, List.foldl_cons, List.foldl_nil, List.setIfInBounds_toArray, List.set_cons_zero, List.set_cons_succ]
    replace hK := hide hK
    replace hi := hide hi
    gi_wp2
    exact hK.out _ Wd ⟨Nat.le_refl _, fun _ _ _ h _ => h⟩ (KO.refl _ _ _) hi.out ⟨_, _, _, _, _, _, _, _, _, _, _, _, _, _, _, _, _, _, _, _, _, _, _, _, _, _, _, _, _, rfl⟩
  case body =>
    rintro l2 pr ⟨i, hil, him⟩ a' Wd hl ⟨r, hr⟩ ⟨xs, hxs, hj, hd⟩ ⟨u6, u7, u8, u9, u10, u11, u12, u13, u14, u15, u16, u17, u18, u19, u20, u21, u22, u23, u24, u25, u26, u27, u28, u29, u30, u31, u32, u33, u34, rfl⟩ hlt
    obtain ⟨q, hq⟩ : ∃ q, L[i]? = some q := ⟨_, List.getElem?_eq_getElem hil⟩
    have hqm := List.mem_of_getElem? hq
    have hId := hIV.out.kc hd.kc (fun k h => h)
    obtain ⟨bb, off, cur, tt, fr, rfl, hbX, hcb, hcc⟩ : ∃ b off cur t fr, ad = some ⟨b, off, none⟩ ∧ ¬ X b ∧ Wd.heap[b]? = some (.cells cur t fr) ∧ ∀ k i, L[k]? = some i → ∀ j u, (insA i)[j]? = some u → cur[off + k * 7 + j]? = some u := by
      rcases hId with h | h
      · rw [h] at hq; simp at hq
      · exact h
    have hLd := hd.kc.2 gL _ _ _ kL hLV.out
    have hbd := hd.kc.2 gb _ _ _ kb hbV.out
    have cL := cell_row hLd 0 (v := .slice (some ⟨bb, off, none⟩) L.length c) rfl
    have hTd := hTV.out.kc hd.kc h0
    have hC : ∀ w', Below Wd.heap.size Wd w' → w'.cell? ⟨bb, off + i * 7, none⟩ = some (.int .i64 q.op) ∧ (loadVar 24 ⟨bb, off + i * 7 + 1, none⟩).run Tryz.prog w' = .ok (setV q.s) w' ∧ w'.cell? ⟨bb, off + i * 7 + 5, none⟩ = some (.int .i64 q.x) ∧ w'.cell? ⟨gb, 0, none⟩ = some (.int .u8 (b : Int)) ∧ w'.cell? ⟨gy, 0, none⟩ = some (.func (.yield l) #[] #[]) := fun w' hb' => by
      have e1 := (hb'.block bb (Array.getElem?_eq_some_iff.1 hcb).1).trans hcb
      have e2 := (hb'.block gb (Array.getElem?_eq_some_iff.1 hbd).1).trans hbd
      have e3 := (hb'.block gy (Array.getElem?_eq_some_iff.1 hd.y).1).trans hd.y
      have ce : ∀ j u, (insA q)[j]? = some u → w'.cell? ⟨bb, off + i * 7 + j, none⟩ = some u := fun j u hj => by
        rw [cell_of_row w' bb _ _ tt fr e1]; exact hcc i q hq j u hj
      exact ⟨ce 0 _ rfl, load24m (fun j u hj => by
        have := ce (1 + j) u (by simpa [insA] using set_in_ins hj)
        rwa [← Nat.add_assoc] at this), ce 5 _ rfl, cell_row e2 0 rfl, cell_row e3 0 rfl⟩
    have i1 : (i : Int) < (L.length : Int) := by omega
    have hdH := hide hd
    have hjH := hide hj
    have hTH := hide hTd
    have hsd : V.heap.size ≤ Wd.heap.size := hd.kc.1
    replace hxs := hide hxs
    replace hr := hide hr
    replace hq := hide hq
    replace hId := hide hId
    replace hcb := hide hcb
    replace hcc := hide hcc
    replace hLd := hide hLd
    replace hbd := hide hbd
    have hCH := hide hC
    have him := hide him
    clear hd hj hTd hC
    gi_wp2_with (first | ((with_reducible refine atI_load 30 ?_); refine wlI_load 30 (round_fn l2) rfl (ld29 cL) ?_))
    by_cases hop : q.op = 1
    · cases hi : inS q.s b with
      | true =>
        have hz := ldx_yes hq.out ⟨hop, hi⟩
        have hzm : q.x.toNat ∈ ldl L b (mems W) := List.mem_filterMap.2 ⟨i, him.out, hz⟩
        have hzp := hPr.out _ hzm
        have hx0 := (hG.out q hqm).1 (.inr (.inr hop))
        have hxe : q.x = ((q.x.toNat : Nat) : Int) := by omega
        refine reg85_c l2 _ Wd bb (off + i * 7) gb gy l q b hCH.out (by simp [hop]) (hok.out q hqm) hb hi (fun e W' => (e = .returned (.bool true) ∧ J (xs ++ [⟨q.x.toNat, hzp⟩]) W' ∧ Kc X Wd W' ∧ KeepsFrom w2.heap.size Wd W') ∨ (e = .returned (.bool false) ∧ Jx (xs ++ [⟨q.x.toNat, hzp⟩]) W' ∧ KeepsFrom w2.heap.size Wd W')) (fun w' hb' => ?_) _ _ _ _ _ _ _ _ _ _ _ _ _ _ _ _ _ _ _ _ _ _ _ _ _ _ _ _ _ _ _ _ _ ?_
        · have := hYY.out xs ⟨q.x.toNat, hzp⟩ w' (own_below hJ.out hjH.out hb') (by
            have e1 := congrArg List.length hxs.out
            have e2 := ldl_le L b (pr.map (·.1))
            simp at e1 e2
            omega)
          simp only [encN] at this
          rw [← hxe] at this
          refine (yield_wide this).mono ?_
          rintro e W' ⟨k1, (⟨rfl, k2, k3⟩ | ⟨rfl, k2⟩)⟩
          · exact .inl ⟨rfl, k2, (Kc.below hb' (Nat.le_refl _)).trans k3, (keeps_below hb').trans ⟨k1.size, fun k o hk => k1.same k o (by omega)⟩⟩
          · exact .inr ⟨rfl, k2, (keeps_below hb').trans ⟨k1.size, fun k o hk => k1.same k o (by omega)⟩⟩
        · rintro e W' (⟨rfl, k2, k3, k4⟩ | ⟨rfl, k2, k4⟩)
          · refine ⟨true, rfl, ?_⟩
            replace k2 := hide k2
            replace k3 := hide k3
            replace k4 := hide k4
            gi_wp2
            refine ⟨k4.out, ko_kc hTH.out k3.out h0, _, ?_, k2.out, hdH.out.kc2 k3.out hyX.out⟩
            have := hxs.out
            rw [List.map_append, List.map_append, this]
            show _ = ldl L b (pr.map (·.1) ++ [i])
            rw [ldl_snoc, hz]
            rfl
          · refine ⟨false, rfl, ?_⟩
            replace k2 := hide k2
            replace k4 := hide k4
            gi_wp2
            exact ⟨k4.out, rfl, _, k2.out⟩
      | false =>
        have hz := ldx_no hq.out (b := b) (fun h => by rw [hi] at h; cases h.2)
        refine reg85_b l2 _ Wd bb (off + i * 7) gb gy l q b hCH.out (by simp [hop]) (hok.out q hqm) hb hi _ _ _ _ _ _ _ _ _ _ _ _ _ _ _ _ _ _ _ _ _ _ _ _ _ _ _ _ _ _ _ _ _ (fun w' hb' => ?_)
        replace hb' := hide hb'
        gi_wp2
        refine ⟨keeps_below hb'.out, KO.below hb'.out (Nat.le_refl _), xs, ?_, own_below hJ.out hjH.out hb'.out, hdH.out.kc2 (Kc.below hb'.out (Nat.le_refl _)) hyX.out⟩
        have := hxs.out
        rw [List.map_append, this]
        show _ = ldl L b (pr.map (·.1) ++ [i])
        rw [ldl_snoc, hz, List.append_nil]
    · have hz := ldx_no hq.out (b := b) (fun h => hop h.1)
      refine reg85_a l2 _ Wd bb (off + i * 7) gb gy l q b hCH.out (by simpa using hop) _ _ _ _ _ _ _ _ _ _ _ _ _ _ _ _ _ _ _ _ _ _ _ _ _ _ _ _ _ _ _ _ _ (fun w' hb' => ?_)
      replace hb' := hide hb'
      gi_wp2
      refine ⟨keeps_below hb'.out, KO.below hb'.out (Nat.le_refl _), xs, ?_, own_below hJ.out hjH.out hb'.out, hdH.out.kc2 (Kc.below hb'.out (Nat.le_refl _)) hyX.out⟩
      have := hxs.out
      rw [List.map_append, this]
      show _ = ldl L b (pr.map (·.1) ++ [i])
      rw [ldl_snoc, hz, List.append_nil]
  case done =>
    rintro D xs Wd hD hS ⟨ys, hys, hj, hd⟩ hK
    rw [hS] at hys
    replace hys := hide hys
    replace hj := hide hj
    replace hd := hide hd
    replace hK := hide hK
    gi_wp2
    refine ⟨by simp, .inl ⟨_, _, rfl, run_takeDeferred hK.out, ?_⟩⟩
    refine ⟨_, results_none rfl _ _ _, ⟨_, rfl⟩, .inl ⟨ys, hys.out, hJ.out.putObj _ hj.out (by omega) hK.out rfl⟩⟩
  case stop =>
    rintro D cc pr Wd hD hS ⟨rfl, p, hp⟩ hK
    replace hp := hide hp
    replace hK := hide hK
    gi_wp2
    refine ⟨by simp, .inl ⟨_, _, rfl, run_takeDeferred hK.out, ?_⟩⟩
    refine ⟨_, results_none rfl _ _ _, ⟨_, rfl⟩, .inr ⟨p, trivial, hJx.out.putObj _ hp.out (by omega) hK.out rfl⟩⟩
end Go.Proofs.YtkfdikpnnkbgaaaGreatDoor
