/-
  The walk of Cut.
-/
import Derived.Test.YtmjjedbdedemcaaDoorUA
namespace Go.Proofs.YtmjjedbdedemcaaDoor
open Go.RowKit Go.Shelf
set_option linter.unusedVariables false
set_option linter.unusedSimpArgs false
attribute [local go_sem] Oper.semAt_some

/-- What Cut answers. -/
def CutT (R : List Sm) (w : World) (e : Ending) (w' : World) : Prop := ∃ (cs : List (List Int)) (ad : Option Addr) (cap' : Nat), e = .returned (.tuple #[.slice ad cs.length cap', .int .i64 0]) ∧ HasL w' ad cs.length cap' cs ∧ Cuts R cs ∧ Below w.heap.size w w'

theorem list_choose {α : Type} (d : α) (P : Nat → α → Prop) : ∀ m, (∀ j, j < m → ∃ c, P j c) → ∃ cs : List α, cs.length = m ∧ ∀ j, j < m → P j (cs.getD j d)
  | 0, _ => ⟨[], rfl, fun j hj => by omega⟩
  | m + 1, h => by
    obtain ⟨cs, h1, h2⟩ := list_choose d P m (fun j hj => h j (by omega))
    obtain ⟨c, hc⟩ := h m (by omega)
    refine ⟨cs ++ [c], by simp [h1], fun j hj => ?_⟩
    rcases Nat.lt_or_ge j m with hj2 | hj2
    · have := h2 j hj2
      rwa [List.getD, ← List.getElem?_append_left (l₂ := [c]) (by omega)] at this
    · obtain rfl : j = m := by omega
      rw [List.getD, List.getElem?_append_right (by omega), h1]
      simpa using hc
theorem hasL_of {W : World} {base : Nat} {v : Value} {m : Nat} {vs : List Value} {cs : List (List Int)} (h : W.ownsRow base 24 1 v m vs) (hl : cs.length = m) (hc : ∀ j, j < m → ∃ a n cp, vs[j]? = some (.slice a n cp) ∧ Has W a n cp (cs.getD j [])) : ∃ ad cap, v = .slice ad m cap ∧ HasL W ad m cap cs := by
  rcases h.2 with ⟨rfl, rfl⟩ | ⟨g, cap, cur, rfl, hbg, hg, hnc, hcm, hcs, htake⟩
  · exact ⟨none, 0, rfl, hl, Nat.le_refl _, Nat.zero_le _, fun hp => by omega⟩
  · refine ⟨some ⟨g, 0, none⟩, cap, rfl, hl, hnc, hcm, fun hp => ⟨g, 0, rfl, (Array.getElem?_eq_some_iff.1 hg).1, fun i hi => ?_⟩⟩
    obtain ⟨a, n, cp, h1, h2⟩ := hc i hi
    have c1 := h.cells (g := g) rfl _ _ h1
    rw [add_plain] at c1
    exact ⟨a, n, cp, c1, h2⟩
theorem piece_min (R : List Sm) (i : Nat) : piece R i (min 120 (R.length - i)) = piece R i 120 := by
  unfold piece
  rw [← List.take_take, List.take_of_length_le (l := R.drop i) (i := R.length - i) (by simp)]
/-- What the rounds of Cut have made. -/
theorem cells_cuts {W : World} {base : Nat} {R : List Sm} {len : Nat} (hlen : R.length = len) {xs : List (Pc len)} {vs : List Value} (h : CellsC W base R xs vs) (hS : Pcs len xs) : ∃ cs : List (List Int), cs.length = xs.length ∧ Cuts R cs ∧ ∀ j, j < xs.length → ∃ a n cap, vs[j]? = some (.slice a n cap) ∧ W.ownsRow base 5 1 (.slice a n cap) n ((cs.getD j []).map (Value.int .u8)) ∧ ∀ y ∈ cs.getD j [], 0 ≤ y ∧ y ≤ 255 := by
  obtain ⟨k, hk, hk1, hk2⟩ := hS
  have hxl : xs.length = k := by have := congrArg List.length hk; rwa [List.length_map, pcs_len] at this
  obtain ⟨cs, h1, h2⟩ := list_choose [] (fun j c => IsC (piece R (120 * j) 120) c ∧ ∃ a n cap, vs[j]? = some (.slice a n cap) ∧ W.ownsRow base 5 1 (.slice a n cap) n (c.map (Value.int .u8)) ∧ ∀ y ∈ c, 0 ≤ y ∧ y ≤ 255) xs.length (fun j hj => by
    obtain ⟨c, a, n, cap, e1, e2, e3, e4⟩ := h j xs[j] (List.getElem?_eq_getElem hj)
    have e5 : (xs.map Pc.two)[j]? = (pcs len k)[j]? := by rw [hk]
    rw [List.getElem?_map, List.getElem?_eq_getElem hj] at e5
    simp [pcs, Pc.two, List.getElem?_range, show j < k by omega] at e5
    rw [e5.1, e5.2, ← hlen, piece_min] at e2
    exact ⟨c, e2, a, n, cap, e1, e3, e4⟩)
  exact ⟨cs, h1, ⟨k, by omega, by omega, by omega, fun j hj => (h2 j (by omega)).1⟩, fun j hj => (h2 j hj).2⟩

set_option maxRecDepth 100000 in
set_option maxHeartbeats 4000000 in
theorem cut_in (n : Nat) (hn : 5 ≤ n) (w : World) (a : Option Addr) (len cap : Nat) (R : List Sm) (H : HasS w a len cap (R.map up)) (hu : Up (R.map up)) (hb : ∀ s ∈ R, s.1 ≤ 40000000) (hlen : len ≤ 100000) (hT : Tabs w) :
    CallsIn Fence.wide n Tryd.prog 8 #[.slice a len cap] w (CutT R w) := by
  have h1 : 1 ≤ n := by omega
  have hpos := hide hT.pos
  have hRl : R.length = len := by have := H.hlen; simpa using this
  have hbv : Hid (∀ s ∈ R, s.1 ≤ 40000000 ∧ s.2 < 18446744073709551616) := fun s hs => ⟨hb s hs, H.vb (up s) (List.mem_map.2 ⟨s, hs, rfl⟩)⟩
  have hle := H.le
  have hcp := H.capb
  unfold maxLen at hcp
  have B1 : Below w.heap.size w ((w.alloc (.cells #[.slice none 0 0] 28)).alloc (.cells #[.int .i64 0] 29)) := ((Below.refl _ w).alloc (Nat.le_refl _) _).alloc (by simp) _
  have RI0 := hide (rise_up _ a len cap _ (H.kept B1 (Nat.le_refl _)) hu)
  replace hT := hide hT
  replace H := hide H
  replace hu := hide hu
  replace B1 := hide B1
  clear hb
  refine callsIn_of_wp_marks Tryd.func8 rfl trivial ?_ rfl
  simp only [Tryd.ntmps8, List.size_toArray, List.length_cons, List.length_nil, Nat.reduceAdd, Nat.reduceSub, Array.replicate_succ, Array.replicate_zero, List.push_toArray, List.append_toArray, List.nil_append, List.cons_append]
  gi_wp2
  refine ⟨trivial, (callsIn_wide.2 RI0.out).mono ?_⟩
  rintro e w2 ⟨rfl, d, hd⟩
  have x0 : Boxed w2 w.heap.size 28 (.slice none 0 0) := by
    rw [hd]; exact (Boxed.new w 28 (.slice none 0 0)).alloc (.cells #[.int .i64 0] 29)
  have x1 : Boxed w2 (w.heap.size + 1) 29 (.int .i64 0) := by
    have := Boxed.new (w.alloc (.cells #[.slice none 0 0] 28)) 29 (.int .i64 0)
    rw [World.size_alloc] at this
    rw [hd]; exact this
  have b2 : Below w.heap.size w w2 := by rw [hd]; exact below_drewN B1.out d
  have z2 : w2.heap.size = w.heap.size + 2 := by rw [hd]; simp [World.drewN]
  clear hd RI0 B1
  gi_wp2
  refine ⟨trivial, (sChunk_in (n - 1) a len cap _).mono ?_⟩
  rintro e w5 ⟨rfl, hw5⟩
  replace hw5 := hide hw5
  gi_wp2
  replace hw5 := hw5.out
  have y4 : Boxed w5 (w.heap.size + 2) 28 (.slice none 0 0) := by
    have := Boxed.new w2 28 (.slice none 0 0)
    rw [z2] at this
    rw [hw5]; exact (this.alloc _).alloc _
  have y0 : Boxed w5 w.heap.size 28 (.slice none 0 0) := by rw [hw5]; exact ((x0.alloc _).alloc _).alloc _
  have y1 : Boxed w5 (w.heap.size + 1) 29 (.int .i64 0) := by rw [hw5]; exact ((x1.alloc _).alloc _).alloc _
  have y5 : Boxed w5 (w.heap.size + 2 + 1) 26 (.slice a len cap) := by
    have := Boxed.new (w2.alloc (.cells #[.slice none 0 0] 28)) 26 (.slice a len cap)
    rw [World.size_alloc, z2] at this
    rw [hw5]; exact this.alloc _
  have y6 : Boxed w5 (w.heap.size + 2 + 1 + 1) 3 (.int .i64 120) := by
    have := Boxed.new ((w2.alloc (.cells #[.slice none 0 0] 28)).alloc (.cells #[.slice a len cap] 26)) 3 (.int .i64 120)
    rw [World.size_alloc, World.size_alloc, z2] at this
    rw [hw5]; exact this
  have b5 : Below w.heap.size w w5 := by rw [hw5]; exact ((b2.alloc b2.size _).alloc (by simp; omega) _).alloc (by simp; omega) _
  have z5 : w5.heap.size = w.heap.size + 5 := by rw [hw5]; simp; omega
  have hI0 : CI w R (w.heap.size + 2) ([] : List (Pc len)) w5 := ⟨y0, y1, ⟨_, [], y4, ⟨rfl, .inl ⟨rfl, rfl⟩⟩, fun j x hj => by simp at hj⟩, b5⟩
  have key : ∃ b off, SeqStopsK Fence.wide (n - 1) Tryd.prog 28 #[.pointer (some ⟨w.heap.size + 2 + 1, 0, none⟩), .pointer (some ⟨w.heap.size + 2 + 1 + 1, 0, none⟩)] (fun x : Pc len => #[Value.slice (some ⟨b, off + x.i * 2, none⟩) x.e x.e]) (KpC w.heap.size) (Pcs len) (fun _ => True) len w5 ∧
      ∀ (x : Pc len) (W : World), Below w.heap.size w W → HasS W (some ⟨b, off + x.i * 2, none⟩) x.e x.e ((piece R x.i x.e).map up) := by
    by_cases hp : 0 < len
    · obtain ⟨b, off, rfl, hbb, _⟩ := H.out.cells hp
      exact ⟨b, off, sChunk_stops (n - 1) (by omega) _ _ _ b off len cap hp hle (by omega) (by omega) w5 y5 y6, fun x W hW => (hasS_piece H.out x.ok).kept hW (Nat.le_refl _)⟩
    · obtain rfl : len = 0 := by omega
      exact ⟨0, 0, sChunk_stops0 (n - 1) _ _ _ cap a w5 y5, fun x W hW => by have := x.ok; omega⟩
  obtain ⟨b, off, hseq, hP⟩ := key
  have hF : Hid (∀ x : Pc len, Fit (piece R x.i x.e)) := fun x => fit_piece hu.out hbv.out (by rw [hRl]; exact x.ok)
  replace hP := hide hP
  clear x0 x1 b2 z2 hw5 y0 y1 y4 y5 y6
  refine wpIn_rangeFunc_ownF rfl h1 (gf := 28) (lb := #[.pointer (some ⟨w.heap.size + 2 + 1, 0, none⟩), .pointer (some ⟨w.heap.size + 2 + 1 + 1, 0, none⟩)]) rfl trivial (enters_of Tryd.func28 (by kernel_rfl) rfl)
    hseq KpC.trans (KpC.put b5.size) (Below.refl _ _) (fun _ => rfl) (CI w R (w.heap.size + 2)) (fun _ _ _ => False)
    (fun s A B row h hg hr => h.grown hg (fun r e => ⟨by have := (hr r e).1; omega, (hr r e).2⟩)) (fun _ _ _ _ _ hs _ _ => hs) hI0
    (fun x => { tmps := #[.slice a len cap, undef, .pointer (some ⟨w.heap.size, 0, none⟩), .pointer (some ⟨w.heap.size + 1, 0, none⟩), .pointer (some ⟨w.heap.size + 2, 0, none⟩), .slice (some ⟨b, off + x.i * 2, none⟩) x.e x.e, undef, undef, .slice a len cap, .bool true, .bool false, .slice a len cap, .func (.func 28) #[] #[.pointer (some ⟨w.heap.size + 2 + 1, 0, none⟩), .pointer (some ⟨w.heap.size + 2 + 1 + 1, 0, none⟩)], .slice (some ⟨b, off + x.i * 2, none⟩) x.e x.e, undef, undef, undef, undef, undef, undef, undef, undef, undef, undef, undef, undef, undef], defers := [] }) ?assign ?body ?done ?stop
  case assign =>
    intro l x W K hK
    gi_wp2
    exact hK
  case body =>
    intro l pre x W hi hlp
    have PU := hide (cPut_ok2 W _ x.e x.e _ (hP.out x W hi.bel) (hT.out.kept hi.bel hpos.out) (hF.out x))
    replace hi := hide hi
    clear hseq hI0
    gi_wp2
    refine ⟨trivial, fun _ => by omega, (CallsIn.inRound l (callsIn_wide.2 PU.out)).mono ?_⟩
    rintro e W1 ⟨c, a', n', cap', hIc, rfl, Hc, bW, Oc⟩
    have hi1 := hi.out.below bW
    have KO := hide (KeepsOthers.of_grownBy (grown_of_below bW) (fun j o ej => by cases ej))
    have KC := hide (KpC.below (n₀ := w.heap.size) bW hi.out.bel.size)
    obtain ⟨vl, vs, hv, ho, hcc⟩ := hi1.row
    have Oc' := owns_mono Oc hi.out.bel.size
    have MO := hide (fun (w2 : World) (v' : Value) => hi1.more (x := x) (w2 := w2) (v' := v') (by omega) hv ho hcc hIc Oc' Hc.bytes)
    have hoA : Hid ((W1.alloc (.cells #[.slice a' n' cap'] 24)).ownsRow w.heap.size 24 1 vl pre.length vs) := ho.alloc _
    have hbs : Hid (w.heap.size ≤ (W1.alloc (.cells #[.slice a' n' cap'] 24)).heap.size) := by have := hi1.bel.size; show _ ≤ _; simp; omega
    have hc0 := hide ((Boxed.new W1 24 (.slice a' n' cap')).cell)
    have v4 := hv.cell
    obtain ⟨av, cv, hvs⟩ := slice_of_owns ho
    clear PU bW Hc Oc Oc' hi1 hv ho hcc hIc hi
    subst hvs
    gi_wp2_with (refine wpListIn_app1 rfl (.tmp 22) (.tmp 24) rfl w.heap.size _ pre.length _ rfl hoA.out W1.heap.size 1 (.slice a' n' cap') rfl hc0.out rfl (by omega) hbs.out ?_; intro v' w3 o1 G1; obtain ⟨A1, A2, A3, A4⟩ := MO.out _ _ o1 G1; obtain ⟨a5, c5, e5⟩ := slice_of_owns o1; subst e5; have a6 := A1.cell; have a7 := A1.frozen; replace A2 := hide (KO.out.trans A2); replace A3 := hide (KC.out.trans A3); replace A4 := hide A4; clear A1 MO o1 G1 KO KC hoA hc0 hbs v4)
    exact ⟨A2.out, A3.out, A4.out⟩
  case done =>
    intro Dd xs W hD hS hi hK
    obtain ⟨vl, vs, hv, ho, hcc⟩ := hi.row
    obtain ⟨cs, hcl, hCu, hcs⟩ := cells_cuts hRl hcc hS
    obtain ⟨av, cv, hvs⟩ := slice_of_owns ho
    subst hvs
    have X4 := hi.r0.set (.slice av xs.length cv)
    have X5 : Boxed (W.setCell ⟨w.heap.size, 0, none⟩ (.slice av xs.length cv)) (w.heap.size + 1) 29 (.int .i64 0) := (Below.heap_setCell W _ _ _ (by show w.heap.size + 1 ≠ w.heap.size; omega)).trans hi.r1
    have Y4 : Boxed ((W.setCell ⟨w.heap.size, 0, none⟩ (.slice av xs.length cv)).setCell ⟨w.heap.size + 1, 0, none⟩ (.int .i64 0)) w.heap.size 28 (.slice av xs.length cv) := (Below.heap_setCell _ _ _ _ (by show w.heap.size ≠ w.heap.size + 1; omega)).trans X4
    have Y5 := X5.set (.int .i64 0)
    have Q1 := ho.kept (grownBy_setCell' W w.heap.size (.slice av xs.length cv)) (.inr (hi.r0.not_row (by decide) ho).symm)
    have Q2 := Q1.kept (grownBy_setCell' _ (w.heap.size + 1) (.int .i64 0)) (.inr (X5.not_row (by decide) Q1).symm)
    have hB := (hi.bel.setCell (p := ⟨w.heap.size, 0, none⟩) (Nat.le_refl _) (.slice av xs.length cv)).setCell (p := ⟨w.heap.size + 1, 0, none⟩) (by show w.heap.size ≤ w.heap.size + 1; omega) (.int .i64 0)
    have hKf : ((W.setCell ⟨w.heap.size, 0, none⟩ (.slice av xs.length cv)).setCell ⟨w.heap.size + 1, 0, none⟩ (.int .i64 0)).heap[Dd]? = some (.deferred (some [])) :=
      (Below.heap_setCell _ _ _ _ (by show Dd ≠ w.heap.size + 1; omega)).trans ((Below.heap_setCell _ _ _ _ (by show Dd ≠ w.heap.size; omega)).trans hK)
    have o0 : ∀ o', (((W.setCell ⟨w.heap.size, 0, none⟩ (.slice av xs.length cv)).setCell ⟨w.heap.size + 1, 0, none⟩ (.int .i64 0)).putObj Dd o').cell? ⟨w.heap.size, 0, none⟩ = some (.slice av xs.length cv) := fun o' => (Y4.kept (grownBy_putObj' _ Dd o') (by simp; omega)).cell
    have o1 : ∀ o', (((W.setCell ⟨w.heap.size, 0, none⟩ (.slice av xs.length cv)).setCell ⟨w.heap.size + 1, 0, none⟩ (.int .i64 0)).putObj Dd o').cell? ⟨w.heap.size + 1, 0, none⟩ = some (.int .i64 0) := fun o' => (Y5.kept (grownBy_putObj' _ Dd o') (by simp; omega)).cell
    have hfin : Hid (∀ o', ∃ ad cap', Value.slice av xs.length cv = .slice ad cs.length cap' ∧ HasL (((W.setCell ⟨w.heap.size, 0, none⟩ (.slice av xs.length cv)).setCell ⟨w.heap.size + 1, 0, none⟩ (.int .i64 0)).putObj Dd o') ad cs.length cap' cs ∧ Below w.heap.size w (((W.setCell ⟨w.heap.size, 0, none⟩ (.slice av xs.length cv)).setCell ⟨w.heap.size + 1, 0, none⟩ (.int .i64 0)).putObj Dd o')) := fun o' => by
      have Q3 := Q2.kept (grownBy_putObj' _ Dd o') (by
        rcases Q2.2 with ⟨e, _⟩ | ⟨g, cp, cur, e, _, hgb, _⟩
        · exact .inl (by rw [e]; rfl)
        · refine .inr fun e' => ?_
          rw [e] at e'
          have : g = Dd := by simpa [Value.ownBlock] using e'
          rw [this, hKf] at hgb; cases hgb)
      obtain ⟨ad, cap', e, HL⟩ := hasL_of Q3 hcl (fun j hj => by
        obtain ⟨a1, n1, c1, e1, e2, e3⟩ := hcs j hj
        have q1 := owns5_kept e2 (grownBy_setCell' W w.heap.size (.slice av xs.length cv)) (fun r er cs' fr hc => by cases er; rw [show W.heap[_]? = _ from hi.r0] at hc; cases hc)
        have q2 := owns5_kept q1 (grownBy_setCell' _ (w.heap.size + 1) (.int .i64 0)) (fun r er cs' fr hc => by cases er; rw [show (World.heap _)[_]? = _ from X5] at hc; cases hc)
        have q3 := owns5_kept q2 (grownBy_putObj' _ Dd o') (fun r er cs' fr hc => by cases er; rw [hKf] at hc; cases hc)
        obtain ⟨a2, c2, ee, HH⟩ := has_of_owns q3 e3
        cases ee
        exact ⟨_, _, _, e1, HH⟩)
      rw [hcl]
      exact ⟨ad, cap', e, HL, hB.trans (belowK_b (w := w) (Nat.le_refl _) _ Dd _ o' (by omega) hKf rfl rfl)⟩
    have v6 := hv.cell
    have v4 := hi.r0.cell
    have f4 := hi.r0.frozen
    have v5 := X5.cell
    have f5 := X5.frozen
    replace hKf := hide hKf
    replace hCu := hide hCu
    clear X4 X5 Y4 Y5 Q1 Q2 hB hcs hcc ho hv hi hseq hI0 hS
    gi_wp2
    refine ⟨by simp, .inl ⟨_, _, rfl, run_takeDeferred hKf.out, ?_⟩⟩
    refine ⟨.tuple #[.slice av xs.length cv, .int .i64 0], by simp [results, Tryd.f8, go_sem, o0, o1], ?_⟩
    obtain ⟨ad, cap', e, HL, BB⟩ := hfin.out _
    exact ⟨cs, ad, cap', by rw [e], HL, hCu.out, BB⟩
  case stop =>
    intro D c pre W _ _ h _
    exact h.elim
theorem cut_any (w : World) (a : Option Addr) (len cap : Nat) (R : List Sm) (H : HasS w a len cap (R.map up)) (hu : Up (R.map up)) (hb : ∀ s ∈ R, s.1 ≤ 40000000) (hlen : len ≤ 100000) (hT : Tabs w) : Calls Tryd.prog 8 #[.slice a len cap] w (CutT R w) :=
  callsIn_wide.1 (cut_in 5 (Nat.le_refl _) w a len cap R H hu hb hlen hT)
end Go.Proofs.YtmjjedbdedemcaaDoor
