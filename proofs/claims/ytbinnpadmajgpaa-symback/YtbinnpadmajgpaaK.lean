/-
  Bytes.
-/
import Derived.Test.YtbinnpadmajgpaaJ
namespace Go.Proofs.Ytbinnpadmajgpaa
open Go.RowKit Go.Shelf
set_option linter.unusedVariables false
set_option linter.unusedSimpArgs false
attribute [local go_sem] Oper.semAt_some

section
variable {F : Fence} {n : Nat} {w w' : World} {ops : Array Oper} {rest : List Oper} {a : Act} {Q : Exit → Act → World → Prop} {d : Nat} {y : Operand} {ty ty2 : TypeId} {pos pos2 : String} {after after2 : Array Edge}
/-- A box is made and at once filled. -/
theorem atI_new (T : TypeId) (h : wpListIn F n Try.prog ops Q (⟨some d, .alloc T, ty, pos, after, none⟩ :: ⟨none, .store T (.tmp d) y, ty2, pos2, after2, none⟩ :: rest) a w) : wpListIn F n Try.prog ops Q (⟨some d, .alloc T, ty, pos, after, none⟩ :: ⟨none, .store T (.tmp d) y, ty2, pos2, after2, none⟩ :: rest) a w := h
theorem wlI_newT (T : TypeId) (z v : Value) (hF : ∀ f, F.fn f) (hz : ∀ (ev : Operand → Value) (dst : Option Nat) (ty : TypeId) (pos : String) (after : Array Edge) (w : World), (execOp ev ⟨dst, .alloc T, ty, pos, after, none⟩).run Try.prog w = .ok (.value (.pointer (some ⟨w.heap.size, 0, none⟩))) (w.alloc (.cells #[z] T))) (h1 : ∀ w, (sizeOf T).run Try.prog w = .ok 1 w) (hv : v.oneCell' = true) (hd : ∀ u, (a.put (some d) u).eval (.tmp d) = u) (hy : ∀ u, (a.put (some d) u).eval y = v)
    (h : ∀ w', w'.heap[w.heap.size]? = some (.cells #[v] T (0, 0)) → Below w.heap.size w w' → w'.heap.size = w.heap.size + 1 → wpListIn F n Try.prog ops Q rest (a.put (some d) (.pointer (some ⟨w.heap.size, 0, none⟩))) w') :
    wpListIn F n Try.prog ops Q (⟨some d, .alloc T, ty, pos, after, none⟩ :: ⟨none, .store T (.tmp d) y, ty2, pos2, after2, none⟩ :: rest) a w := by
  refine wlI_val (v := .pointer (some ⟨w.heap.size, 0, none⟩)) (w' := w.alloc (.cells #[z] T)) hF (fun c => nofun) (hz _ _ _ _ _ _) ?_
  · have hg := heap_alloc_new w (.cells #[z] T)
    have e := store_box h1 hg hv
    refine wlI_skip (w' := (w.alloc (.cells #[z] T)).setCell ⟨w.heap.size, 0, none⟩ v) hF (fun c => nofun) ?_ (h _ (heap_setCell_same _ _ 0 _ T _ hg) ?_ (by simp [World.setCell]))
    · unfold execOp
      simp only [hd, hy, Instr.storeAt, Instr.sureAddr, Sem.run_bind, Sem.run_pure, Result.andThen_ok, e]
    · exact ((Below.refl _ w).alloc (Nat.le_refl _) _).setCell (Nat.le_refl _) _
end
theorem alloc23 (ev : Operand → Value) (dst : Option Nat) (ty : TypeId) (pos : String) (after : Array Edge) (w : World) : (execOp ev ⟨dst, .alloc 23, ty, pos, after, none⟩).run Try.prog w = .ok (.value (.pointer (some ⟨w.heap.size, 0, none⟩))) (w.alloc (.cells #[.slice none 0 0] 23)) := by
  unfold execOp
  kernel_rfl
theorem alloc9 (ev : Operand → Value) (dst : Option Nat) (ty : TypeId) (pos : String) (after : Array Edge) (w : World) : (execOp ev ⟨dst, .alloc 9, ty, pos, after, none⟩).run Try.prog w = .ok (.value (.pointer (some ⟨w.heap.size, 0, none⟩))) (w.alloc (.cells #[.string ByteArray.empty] 9)) := by
  unfold execOp
  kernel_rfl
theorem one9 : ∀ w, (sizeOf 9).run Try.prog w = .ok 1 w := fun w => by kernel_rfl
/-- What lies still while the texts go by. -/
structure BtI (w0 : World) (g3 g4 r0 Z base : Nat) (pre : List Int) (last : Tx) (W : World) : Prop where
  row : ∃ v, W.heap[g3]? = some (.cells #[v] 23 (0, 0)) ∧ W.ownsRow base 5 1 v pre.length (pre.map (Value.int .u8)) ∧ ∀ k, v.ownBlock = some k → k = r0 ∨ Z ≤ k
  lst : W.heap[g4]? = some (.cells #[encStr last] 9 (0, 0))
  bel : Below w0.heap.size w0 W
theorem BtI.own {w0 : World} {g3 g4 r0 Z base B : Nat} {pre : List Int} {last : Tx} {W W' : World} {row : Option Nat} (h : BtI w0 g3 g4 r0 Z base pre last W) (hB : w0.heap.size ≤ B) (hg : W.grownBy W' row) (hr : ∀ r, row = some r → B ≤ r ∧ ∃ o : Obj, W.heap[r]? = some o ∧ o.isCells = false) : BtI w0 g3 g4 r0 Z base pre last W' := by
  have ne : ∀ g xs t, W.heap[g]? = some (.cells xs t (0, 0)) → some g ≠ row := fun g xs t h e => by
    obtain ⟨_, o, ho, hc⟩ := hr g e.symm
    rw [h] at ho
    cases ho
    cases hc
  obtain ⟨v, h1, h2, h3⟩ := h.row
  exact ⟨⟨v, (hg.block g3 (Array.getElem?_eq_some_iff.1 h1).1 (ne _ _ _ h1)).trans h1, ownsR_kept h2 (fun k cur _ e => (hg.block k (Array.getElem?_eq_some_iff.1 e).1 (ne _ _ _ e)).trans e), h3⟩, (hg.block g4 (Array.getElem?_eq_some_iff.1 h.lst).1 (ne _ _ _ h.lst)).trans h.lst, h.bel.grown hg h.bel.size (fun k e => by have := (hr k e).1; omega)⟩
theorem take_snoc' {L : List Tx} {k : Nat} (h : k < L.length) : L.take (k + 1) = L.take k ++ [L.getD k []] := by
  rw [List.take_add_one, List.getElem?_eq_getElem h]
  simp [List.getD, List.getElem?_eq_getElem h]
theorem parts_len : ∀ (L : List Tx) (p : Tx), (∀ s ∈ L, s.length ≤ 256) → (partsB p L).length ≤ 276 * L.length
  | [], p, _ => by simp [partsB]
  | s :: L, p, h => by
    have h1 := parts_len L s (fun x hx => h x (by simp [hx]))
    have h2 := h s (by simp)
    have e1 := V.sz_range (cmn p s)
    have e2 := V.sz_range (num (s.drop (cmn p s))).length
    simp only [partsB, partB, V.pb, List.length_append, V.enc_length, num_len, List.length_drop, List.length_cons] at h1 e2 ⊢
    omega
theorem range_next {m x : Nat} {pre : List Nat} (h : pre ++ [x] <+: List.range m) : x = pre.length ∧ pre.length < m := by
  have hl := h.length_le
  simp only [List.length_append, List.length_cons, List.length_nil, List.length_range] at hl
  have := List.IsPrefix.getElem h (i := pre.length) (by simp)
  simp at this
  exact ⟨this, by omega⟩
theorem lastT_le (L : List Tx) (h : ∀ s ∈ L, s.length ≤ 256) : (lastT [] L).length ≤ 256 := by
  rcases Nat.eq_zero_or_pos L.length with h0 | h0
  · obtain rfl : L = [] := List.eq_nil_of_length_eq_zero h0
    simp [lastT]
  · exact h _ (lastT_mem L [] h0)
theorem parts_bytes : ∀ (L : List Tx) (p : Tx), p.length ≤ 256 → (∀ s ∈ L, s.length ≤ 256) → ∀ x ∈ partsB p L, 0 ≤ x ∧ x ≤ 255
  | [], p, _, _ => by simp [partsB]
  | s :: L, p, hp, h => by
    intro x hx
    have hs := h s (by simp)
    have hc := (cmn_le p s).1
    simp only [partsB, partB, V.pb, List.mem_append] at hx
    rcases hx with (hx | hx | hx) | hx
    · exact V.enc_bytes _ (by omega) x hx
    · refine V.enc_bytes _ ?_ x hx
      rw [num_len, List.length_drop]; omega
    · exact num_bytes _ x hx
    · exact parts_bytes L s hs (fun y hy => h y (by simp [hy])) x hx
theorem tabB_bytes' (L : List Tx) (hl : L.length < 18446744073709551616) (h : ∀ s ∈ L, s.length ≤ 256) : ∀ x ∈ tabB L, 0 ≤ x ∧ x ≤ 255 := by
  intro x hx
  rcases List.mem_append.1 hx with hx | hx
  · exact V.enc_bytes _ hl x hx
  · exact parts_bytes L [] (by simp) h x hx
theorem keep2 {w3 w4 w5 : World} {g : Nat} {v : Value} (h : w3.cell? ⟨g, 0, none⟩ = some v) (hg : g < w3.heap.size) (h4 : Below w3.heap.size w3 w4) (h5 : Below w4.heap.size w4 w5) : w5.cell? ⟨g, 0, none⟩ = some v :=
  (h5.cell (p := ⟨g, 0, none⟩) (Nat.lt_of_lt_of_le hg h4.size)).trans ((h4.cell (p := ⟨g, 0, none⟩) hg).trans h)
set_option maxHeartbeats 8000000 in
set_option maxRecDepth 100000 in
theorem bytes_in (N : Nat) (hN : 5 ≤ N) (a : Addr) (n c : Nat) (L : List Tx) (w : World) (h : HasS w (some a) n c L) (hL : ∀ s ∈ L, s.length ≤ 256) (hn : n ≤ 4096) :
    CallsIn Fence.wide N Try.prog 9 #[.agg #[.slice (some a) n c]] w fun e w' => ∃ a' n' c', e = .returned (.slice a' n' c') ∧ V.Has w' a' n' c' (tabB L) ∧ Below w.heap.size w w' := by
  have hlen := h.hlen
  have V0 := hide (fun w => void_any (some a) n c w)
  have LN := hide (fun w => len_any (some a) n c w)
  have AL := hide (fun w => all_any (some a) n c w)
  have PU := hide (fun W => V.Put_any W none 0 0 [] (n : Int) (V.has_nil W) (by omega) (by omega) (by omega))
  have i0 : (n : Int) ≤ 4096 := by omega
  have w64n : IntKind.u64.wrap (n : Int) = (n : Int) := by rw [IntKind.wrap_u64]; omega
  replace h := hide h
  replace hlen := hide hlen
  replace hL := hide hL
  refine callsIn_of_wp_marks Try.func9 rfl trivial ?_ rfl
  simp only [Try.ntmps9, List.size_toArray, List.length_cons, List.length_nil, Nat.reduceAdd, Nat.reduceSub, Array.replicate_succ, Array.replicate_zero, List.push_toArray, List.append_toArray, List.nil_append, List.cons_append]
  gi_wp2
  obtain ⟨w1, e1⟩ : ∃ w1, w.alloc (.cells #[.slice (some a) n c] 27) = w1 := ⟨_, rfl⟩
  have B1 : Below w.heap.size w w1 := by rw [← e1]; exact (Below.refl _ w).alloc (Nat.le_refl _) _
  have b1 : w1.cell? ⟨w.heap.size, 0, none⟩ = some (.slice (some a) n c) := by rw [← e1]; simp
  have z1 : w1.heap.size = w.heap.size + 1 := by rw [← e1]; simp
  rw [e1]
  refine ⟨trivial, fun h => (by omega), (callsIn_wide.2 (V0.out w1)).mono ?_⟩
  rintro e w1' ⟨rfl, rfl⟩
  replace e1 := hide e1
  replace B1 := hide B1
  replace z1 := hide z1
  gi_wp2
  refine ⟨trivial, fun h => (by omega), (callsIn_wide.2 (LN.out w1')).mono ?_⟩
  rintro e w2 ⟨rfl, B2⟩
  have b2 : w2.cell? ⟨w.heap.size, 0, none⟩ = some (.slice (some a) n c) := (B2.cell (p := ⟨w.heap.size, 0, none⟩) (show w.heap.size < _ by have := z1.out; omega)).trans b1
  have z2 := hide (show w.heap.size + 1 ≤ w2.heap.size by have := B2.size; have := z1.out; omega)
  have B2' := hide (B1.out.trans (B2.mono B1.out.size))
  have PU2 := hide (PU.out w2)
  rw [Int.toNat_natCast, List.nil_append] at PU2
  clear B2 b1 B1
  replace b2 := hide b2
  gi_wp2
  refine ⟨trivial, fun h => (by omega), (callsIn_wide.2 PU2.out).mono ?_⟩
  rintro e w3 ⟨a3, n3, c3, rfl, H3, B3, O3⟩
  have b3 := hide ((B3.cell (p := ⟨w.heap.size, 0, none⟩) (show w.heap.size < _ by have := z2.out; omega)).trans b2.out)
  have B3' := hide (B2'.out.trans (B3.mono B2'.out.size))
  have s3 := hide B3.size
  have hn3 := hide (show n3 = (V.enc n).length from H3.hlen.symm)
  replace O3 := hide O3
  clear H3 B3 PU2 b2
  gi_wp2_with (first
    | ((with_reducible refine atI_new 23 ?_); refine wlI_newT 23 (.slice none 0 0) (.slice a3 n3 c3) wide_fn alloc23 one23 rfl (fun _ => rfl) (fun _ => rfl) ?_; intro w4 h4 B4 s4; replace h4 := hide h4; replace B4 := hide B4; replace s4 := hide s4)
    | ((with_reducible refine atI_new 9 ?_); refine wlI_newT 9 (.string ByteArray.empty) (.string ByteArray.empty) wide_fn alloc9 one9 rfl (fun _ => rfl) (fun _ => rfl) ?_; intro w5 h5 B5 s5; replace h5 := hide h5; have b5 := keep2 b3.out (by have := z2.out; have := s3.out; omega) B4.out B5; replace B5 := hide B5; replace s5 := hide s5))
  refine ⟨trivial, fun h => (by omega), (callsIn_wide.2 (AL.out w5)).mono ?_⟩
  rintro e w6 ⟨gB, rfl, hgB, lgB, B6⟩
  have hgB' := hide hgB
  have sw4 := s4.out
  have sw5 := s5.out
  have sw2 := z2.out
  have sw3 := s3.out
  have sz6 := B6.size
  have lB6 := (Array.getElem?_eq_some_iff.1 hgB).1
  have k3 : w6.heap[w3.heap.size]? = some (.cells #[.slice a3 n3 c3] 23 (0, 0)) := (B6.block _ (by omega)).trans ((B5.out.block _ (by omega)).trans h4.out)
  have k4 : w6.heap[w4.heap.size]? = some (.cells #[.string ByteArray.empty] 9 (0, 0)) := (B6.block _ (by omega)).trans h5.out
  have B46 : Below w3.heap.size w3 w6 := (B4.out.trans (B5.out.mono (by omega))).trans (B6.mono (by omega))
  have bel6 : Below w.heap.size w w6 := B3'.out.trans (B46.mono (by omega))
  obtain ⟨r0, hr0⟩ : ∃ r0, (Value.slice a3 n3 c3).ownBlock = some r0 := by
    rcases O3.out.2 with ⟨e, h0⟩ | ⟨g, cap, cur, e, _⟩
    · have := hn3.out; rw [V.enc_length] at this; have := V.sz_range n; omega
    · rw [e]; exact ⟨g, rfl⟩
  have r0l := O3.out.lt r0 hr0
  have O6 : w6.ownsRow w2.heap.size 5 1 (.slice a3 n3 c3) (V.enc n).length ((V.enc n).map (Value.int .u8)) := by
    rw [← hn3.out]; exact ownsRow_keep O3.out B46
  have hL0 := hL.out
  have hlen0 := hlen.out
  obtain ⟨X, hX⟩ : ∃ X : Nat → Prop, X = fun k => k = w3.heap.size ∨ k = w4.heap.size ∨ k = r0 ∨ w6.heap.size ≤ k := ⟨_, rfl⟩
  have hXl : ∀ k, X k → w.heap.size ≤ k := fun k hk => by rw [hX] at hk; omega
  have hXB : ¬ X gB := fun hk => by rw [hX] at hk; omega
  have hRK : RowK X w6 (some a) n L := (RowK.of h.out (fun b hb hk => by have := hXl b hk; omega)).below bel6
  have hst := hide (iter_stops X (N - 1) (by omega) gB L n c (some a) (by omega) hXB w6 hgB hRK)
  have I0 : BtI w w3.heap.size w4.heap.size r0 w6.heap.size w2.heap.size (V.enc n ++ partsB [] (L.take ([] : List Nat).length)) (lastT [] (L.take ([] : List Nat).length)) w6 := ⟨⟨_, k3, by simpa [partsB] using O6, fun k e => .inl (by rw [hr0] at e; cases e; rfl)⟩, k4, bel6⟩
  replace bel6 := hide bel6
  have y64 := hide (V.sz_range n)
  clear B6 B46 k3 k4 hgB hRK O6
  replace sw4 := hide sw4
  replace sw5 := hide sw5
  replace sw2 := hide sw2
  replace sw3 := hide sw3
  replace sz6 := hide sz6
  replace lB6 := hide lB6
  replace r0l := hide r0l
  replace I0 := hide I0
  replace hr0 := hide hr0
  gi_wp2
  refine wpIn_rangeB rfl (by omega) (gf := 50) (lb := #[.pointer (some ⟨gB, 0, none⟩)]) rfl (wide_fn 50) (enters_of Try.func50 (by kernel_rfl) rfl) hst.out
    (fun h k => h.trans k) (fun Wd l o o' hl ho hc _ => ⟨by simp [World.putObj], fun k cs t fr _ e => (World.putObj_heap_other (fun h => by rw [h, ho] at e; cases e; cases hc)).trans e⟩)
    (Below.refl _ w6) (fun _ => rfl)
    (fun pr Wd => BtI w w3.heap.size w4.heap.size r0 w6.heap.size w2.heap.size (V.enc n ++ partsB [] (L.take pr.length)) (lastT [] (L.take pr.length)) Wd)
    (fun _ _ _ => False)
    (fun pr Wd Wd' row hs hg hr => hs.own bel6.out.size hg hr)
    (fun _ _ _ _ _ hs _ _ => hs) I0.out
    (fun x a' Wd => ∃ (u2 u5 u7 u8 u9 u10 u11 u12 u13 u14 u15 u16 u17 u18 u19 u20 u21 u22 u23 u24 u25 u0 u1 : Value), a' = { tmps := #[u0, u1, u2, .pointer (some ⟨w3.heap.size, 0, none⟩), .pointer (some ⟨w4.heap.size, 0, none⟩), u5, encStr (L.getD x []), u7, u8, u9, u10, u11, u12, u13, u14, u15, u16, u17, u18, u19, u20, u21, u22, u23, u24, u25], defers := [] })
    (fun x a' _ Wd Wd' row hs hg' hr => hs) ?assign ?body ?done ?stop
  case assign =>
    intro l2 pr x Wd K hi hK
    simp only [encN, List.zip_toArray, List.zip_cons_cons, List.zip_nil_left, List.zip_nil_right, List.foldl_toArray, List.foldl_cons, List.foldl_nil, List.setIfInBounds_toArray, List.set_cons_zero, List.set_cons_succ]
    replace hK := hide hK
    replace hi := hide hi
    gi_wp2
    exact hK.out _ Wd ⟨Nat.le_refl _, fun _ _ _ h _ => h⟩ (Kc.refl _ _) hi.out ⟨_, _, _, _, _, _, _, _, _, _, _, _, _, _, _, _, _, _, _, _, _, _, _, rfl⟩
  case body =>
    rintro l2 pr x a' Wd hl ⟨r, hr⟩ hI ⟨u2, u5, u7, u8, u9, u10, u11, u12, u13, u14, u15, u16, u17, u18, u19, u20, u21, u22, u23, u24, u25, u0, u1, rfl⟩ hY hsz
    obtain ⟨hx, hlt⟩ := range_next hY
    subst hx
    obtain ⟨v, hv, ho, hb⟩ := hI.row
    have w4e := sw4.out
    have w5e := sw5.out
    have w2e := sw2.out
    have w3e := sw3.out
    have w6e := sz6.out
    have r0e := r0l.out
    obtain ⟨k, hk⟩ : ∃ k, pr.length = k := ⟨_, rfl⟩
    rw [hk] at hlt ho hI ⊢
    have hkl : k < L.length := by omega
    have hs1 : (L.getD k []).length ≤ 256 := hL.out _ (by simp [List.getD, List.getElem?_eq_getElem hkl])
    have hs2 : (lastT [] (L.take k)).length ≤ 256 := lastT_le _ (fun s hs => hL.out s (List.mem_of_mem_take hs))
    have hpl := parts_len (L.take k) [] (fun s hs => hL.out s (List.mem_of_mem_take hs))
    rw [List.length_take] at hpl
    have htk := hide (take_snoc' hkl)
    generalize L.getD k [] = s at *
    have hbs : (V.enc n ++ partsB [] (L.take k)).length ≤ 2000000 := by rw [List.length_append, V.enc_length]; have := y64.out; omega
    have hpb : partB (lastT [] (L.take k)) s = V.enc (cmn (lastT [] (L.take k)) s) ++ V.pb (num (s.drop (cmn (lastT [] (L.take k)) s))) := rfl
    have hpl2 : (partB (lastT [] (L.take k)) s).length ≤ 600 ∧ 0 < (partB (lastT [] (L.take k)) s).length := by
      have e1 := V.sz_range (cmn (lastT [] (L.take k)) s)
      have e2 := V.sz_range (num (s.drop (cmn (lastT [] (L.take k)) s))).length
      simp only [partB, V.pb, List.length_append, V.enc_length, num_len, List.length_drop] at e2 ⊢
      omega
    have hps := hide (fun w5 a5 n5 c5 (B5 : Below Wd.heap.size Wd w5) (H5 : V.Has w5 a5 n5 c5 (V.enc (cmn (lastT [] (L.take k)) s) ++ V.pb (num (s.drop (cmn (lastT [] (L.take k)) s))))) => row_push hv ho (by omega) (by rw [← hpb]; omega) B5 H5 (by rw [← hpb]; exact hpl2.2))
    obtain ⟨Fin, hFin⟩ : ∃ Fin : World → Prop, Fin = fun W' => ∃ v6, W'.heap[w3.heap.size]? = some (.cells #[v6] 23 (0, 0)) ∧ W'.ownsRow w2.heap.size 5 1 v6 (V.enc n ++ partsB [] (L.take k) ++ partB (lastT [] (L.take k)) s).length ((V.enc n ++ partsB [] (L.take k) ++ partB (lastT [] (L.take k)) s).map (Value.int .u8)) ∧ (∀ k, v6.ownBlock = some k → v.ownBlock = some k ∨ Wd.heap.size ≤ k) ∧ But (fun k => k = w3.heap.size ∨ v.ownBlock = some k) Wd W' := ⟨_, rfl⟩
    have hps' : Hid (∀ w5 a5 n5 c5, Below Wd.heap.size Wd w5 → V.Has w5 a5 n5 c5 (V.enc (cmn (lastT [] (L.take k)) s) ++ V.pb (num (s.drop (cmn (lastT [] (L.take k)) s)))) → ∃ v6 w6, (Builtin.append_ #[23, 23] 23 #[v, .slice a5 n5 c5]).run Try.prog w5 = .ok v6 w6 ∧ v6.oneCell' = true ∧ (storeVar 23 ⟨w3.heap.size, 0, none⟩ v6).run Try.prog w6 = .ok () (w6.setCell ⟨w3.heap.size, 0, none⟩ v6) ∧ Fin (w6.setCell ⟨w3.heap.size, 0, none⟩ v6)) := by
      intro w5 a5 n5 c5 B5 H5
      obtain ⟨v6, w6, q1, q2, q3, q4⟩ := hps.out w5 a5 n5 c5 B5 H5
      exact ⟨v6, w6, q1, q2, q3, by rw [hFin]; exact ⟨v6, q4⟩⟩
    have hl4 := hI.lst
    have hlv := (Array.getElem?_eq_some_iff.1 hv).1
    have hl4l := (Array.getElem?_eq_some_iff.1 hl4).1
    have hob : ∀ k, v.ownBlock = some k → ∃ cur, Wd.heap[k]? = some (.cells cur 5 (0, 0)) := fun k e => by
      rcases ho.2 with ⟨rfl, _⟩ | ⟨g, cap, cur, rfl, _, q2, _⟩
      · cases e
      · cases e; exact ⟨cur, q2⟩
    have hIH := hide hI
    have hvH := hide hv
    have hl4H := hide hl4
    have hobH := hide hob
    have hbH := hide hb
    replace hr := hide hr
    have hYH := hide hY
    have hFinH := hide hFin
    replace hk := hide hk
    clear hI hv ho hl4 hY hps hb hob hFin hpb hpl hbs w4e w5e w2e w3e w6e r0e hkl
    gi_wp2
    refine reg9_7 l2 _ Wd w3.heap.size w4.heap.size v (lastT [] (L.take k)) s _ rfl (by omega) (by omega) hvH.out hl4H.out Fin hps'.out _ _ _ _ _ _ _ _ _ _ _ _ _ _ _ _ _ _ _ _ _ _ _ _ (fun a4 a5 n4 c4 n5 c5 v6 W' hF => ?_)
    rw [hFinH.out] at hF
    obtain ⟨v7, f1, f2, f3, f4⟩ := hF
    have e34 : w3.heap.size ≠ w4.heap.size := by have := sw4.out; omega
    have hr4 : v.ownBlock ≠ some w4.heap.size := fun e => by
      have := hbH.out _ e; have := r0l.out; have := sw4.out; have := sw5.out; have := sz6.out; omega
    have g4 : W'.heap[w4.heap.size]? = some (.cells #[encStr (lastT [] (L.take k))] 9 (0, 0)) := (f4.block _ hl4l (fun h => by rcases h with h | h; exact e34 h.symm; exact hr4 h)).trans hl4H.out
    have c4' := cell_row g4 0 (v := encStr (lastT [] (L.take k))) rfl
    have z4' := frozen_of_row W' w4.heap.size 0 _ 9 g4
    replace f1 := hide f1
    replace f2 := hide f2
    replace f3 := hide f3
    replace f4 := hide f4
    replace g4 := hide g4
    replace e34 := hide e34
    replace hr4 := hide hr4
    clear hlv hl4l hs1 hs2
    gi_wp2
    have hsz' : (W'.setCell ⟨w4.heap.size, 0, none⟩ (encStr s)).heap.size = W'.heap.size := by simp [World.setCell]
    have ot : ∀ k, k ≠ w4.heap.size → (W'.setCell ⟨w4.heap.size, 0, none⟩ (encStr s)).heap[k]? = W'.heap[k]? := fun k hk => Below.heap_setCell W' ⟨w4.heap.size, 0, none⟩ _ k hk
    have hsame := heap_setCell_same W' w4.heap.size 0 _ 9 (encStr s) g4.out
    have hb := f4.out
    refine ⟨⟨by rw [hsz']; exact hb.size, fun j o hj ho hcs => ?_⟩, ⟨by rw [hsz']; exact hb.size, fun j cs t fr hXj e => ?_⟩, ?_⟩
    · have hj4 : j ≠ w4.heap.size := fun e => by rw [e, hl4H.out] at ho; cases ho; cases hcs
      rw [ot j hj4]
      refine (hb.block j (Array.getElem?_eq_some_iff.1 ho).1 (fun h => ?_)).trans ho
      rcases h with h | h
      · rw [h, hvH.out] at ho; cases ho; cases hcs
      · obtain ⟨cur, hc⟩ := hobH.out j h
        rw [hc] at ho; cases ho; cases hcs
    · have hj4 : j ≠ w4.heap.size := fun e => hXj (by rw [hX]; exact .inr (.inl e))
      rw [ot j hj4]
      refine (hb.block j (Array.getElem?_eq_some_iff.1 e).1 (fun h => hXj ?_)).trans e
      rw [hX]
      rcases h with h | h
      · exact .inl h
      · rcases hbH.out j h with h | h
        · exact .inr (.inr (.inl h))
        · exact .inr (.inr (.inr h))
    · have el : (pr ++ [k]).length = k + 1 := by rw [List.length_append, hk.out]; rfl
      dsimp only
      rw [el, htk.out, partsB_snoc, lastT_snoc, ← List.append_assoc]
      refine ⟨⟨v7, by rw [ot _ e34.out]; exact f1.out, ownsR_kept f2.out (fun j cur _ e => (ot j (fun ej => by rw [ej, g4.out] at e; simp at e)).trans e), fun j e => ?_⟩, hsame, ?_⟩
      · rcases f3.out j e with h | h
        · exact hbH.out j h
        · have := hIH.out.bel.size; exact .inr (by omega)
      · refine (hIH.out.bel.trans (hb.below hIH.out.bel.size (fun j h => ?_))).setCell ?_ _
        · have := sw2.out; have := sw3.out
          rcases h with h | h
          · omega
          · rcases hbH.out j h with h | h
            · have := r0l.out; omega
            · have := sz6.out; have := sw4.out; have := sw5.out; omega
        · show w.heap.size ≤ w4.heap.size
          have := sw2.out; have := sw3.out; have := sw4.out; omega
  case done =>
    rintro D xs Wd hD hS hI hK
    rw [hS, List.length_range, List.take_of_length_le (by rw [hlen0]; exact Nat.le_refl _)] at hI
    obtain ⟨v, hv, ho, hb⟩ := hI.row
    have c6 := cell_row hv 0 (v := v) rfl
    have hbel := hide hI.bel
    replace hv := hide hv
    replace ho := hide ho
    replace hK := hide hK
    clear hI
    gi_wp2_with (first | ((with_reducible refine atI_load 23 ?_); refine wlI_load 23 wide_fn rfl (ldv23 c6) ?_))
    have B77 := grownBy_putObj' Wd D (.deferred none)
    refine ⟨by simp, .inl ⟨_, _, rfl, run_takeDeferred hK.out, ?_⟩⟩
    have ho' : (Wd.putObj D (.deferred none)).ownsRow w2.heap.size 5 1 v (tabB L).length ((tabB L).map (Value.int .u8)) := by
      have : V.enc n ++ partsB [] L = tabB L := by unfold tabB; rw [hlen0]
      rw [← this]
      exact ownsR_kept ho.out (fun k cur _ e => (B77.block k (Array.getElem?_eq_some_iff.1 e).1 (fun h => by cases h; rw [hK.out] at e; cases e)).trans e)
    obtain ⟨a', c', rfl, H'⟩ := V.has_of_owns ho' (tabB_bytes' L (by rw [hlen0]; omega) hL0)
    exact ⟨_, results_tmp rfl _ _ _, _, _, _, rfl, H', hbel.out.grown B77 hbel.out.size (fun k e => by cases e; have := bel6.out.size; omega)⟩
  case stop => rintro D cc pr Wd hD hS h; exact h.elim
theorem bytes_any (a : Addr) (n c : Nat) (L : List Tx) (w : World) (h : HasS w (some a) n c L) (hL : ∀ s ∈ L, s.length ≤ 256) (hn : n ≤ 4096) :
    Calls Try.prog 9 #[.agg #[.slice (some a) n c]] w fun e w' => ∃ a' n' c', e = .returned (.slice a' n' c') ∧ V.Has w' a' n' c' (tabB L) ∧ Below w.heap.size w w' :=
  callsIn_wide.1 (bytes_in 5 (Nat.le_refl _) a n c L w h hL hn)
end Go.Proofs.Ytbinnpadmajgpaa
