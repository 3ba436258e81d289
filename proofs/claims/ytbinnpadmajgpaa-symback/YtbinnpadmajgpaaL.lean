/-
  readPart.
-/
import Derived.Test.YtbinnpadmajgpaaHA
import Derived.Test.YtbinnpadmajgpaaVP
namespace Go.Proofs.Ytbinnpadmajgpaa
open Go.RowKit Go.Shelf
set_option linter.unusedVariables false
set_option linter.unusedSimpArgs false
set_option maxRecDepth 100000

/-- A box of a part, which may be written. -/
def BoxP (w : World) (g : Nat) (k : Int) (v : Value) : Prop := (w.cell? ⟨g, 0, none⟩ = some (.int .u64 k) ∧ w.cell? ⟨g, 1, none⟩ = some v) ∧ w.frozen? ⟨g, 0, none⟩ = false ∧ w.frozen? ⟨g, 1, none⟩ = false ∧ g < w.heap.size
theorem BoxP.new (w : World) (k : Int) (v : Value) : BoxP (w.alloc (.cells #[.int .u64 k, v] 55)) w.heap.size k v :=
  ⟨⟨(box55 w k v).1, (box55 w k v).2.1⟩, (box55 w k v).2.2 0, (box55 w k v).2.2 1, by simp⟩
theorem BoxP.kept {w w' : World} {g B : Nat} {k : Int} {v : Value} (h : BoxP w g k v) (hb : Below B w w') (hB : g < B) : BoxP w' g k v :=
  ⟨⟨(hb.cell (p := ⟨g, 0, none⟩) hB).trans h.1.1, (hb.cell (p := ⟨g, 1, none⟩) hB).trans h.1.2⟩, (hb.frozen (p := ⟨g, 0, none⟩) hB).trans h.2.1, (hb.frozen (p := ⟨g, 1, none⟩) hB).trans h.2.2.1, Nat.lt_of_lt_of_le h.2.2.2 hb.size⟩
theorem BoxP.set {w : World} {g : Nat} {k : Int} {v : Value} (h : BoxP w g k v) (k' : Int) (v' : Value) : BoxP ((w.setCell ⟨g, 0, none⟩ (.int .u64 k')).setCell ⟨g, 1, none⟩ v') g k' v' := by
  have h1 : (w.setCell ⟨g, 0, none⟩ (.int .u64 k')).cell? ⟨g, 1, none⟩ = some v := (World.cell?_setCell_other _ _ _ _ (by simp)).trans h.1.2
  refine ⟨⟨?_, World.cell?_setCell_same' _ _ _ (by rw [h1]; rfl)⟩, by simp only [World.frozen?_setCell]; exact h.2.1, by simp only [World.frozen?_setCell]; exact h.2.2.1, by simp only [World.size_setCell]; exact h.2.2.2⟩
  exact (World.cell?_setCell_other _ _ _ _ (by simp)).trans (World.cell?_setCell_same' _ _ _ (by rw [h.1.1]; rfl))
theorem BoxP.other {w : World} {g : Nat} {k : Int} {v : Value} (h : BoxP w g k v) : ∀ u, (w.setCell ⟨g, 0, none⟩ u).cell? ⟨g, 1, none⟩ = some v := fun u => (World.cell?_setCell_other _ _ _ _ (by simp)).trans h.1.2
theorem V.Has.apart {w : World} {a : Option Addr} {n c g : Nat} {l : List Int} {cs : Array Value} {T : TypeId} {fr : Nat × Nat} (h : V.Has w a n c l) (hg : w.heap[g]? = some (.cells cs T fr)) (hc : ∀ (i : Nat) (x : Int), cs[i]? ≠ some (Value.int .u8 x)) : 0 < n → ∃ b off, a = some ⟨b, off, none⟩ ∧ b ≠ g := fun hn => by
  obtain ⟨b, off, e1, e2, e3⟩ := h.cells hn
  refine ⟨b, off, e1, fun e => ?_⟩
  have := e3 0 hn
  rw [e, cell_of_row w g (off + 0) cs T fr hg] at this
  exact hc _ _ this
theorem V.Has.far2 {w : World} {a : Option Addr} {n c g : Nat} {l : List Int} (h : V.Has w a n c l) (hne : 0 < n → ∃ b off, a = some ⟨b, off, none⟩ ∧ b ≠ g) (i : Nat) (v : Value) : V.Has (w.setCell ⟨g, i, none⟩ v) a n c l :=
  ⟨h.hlen, h.le, h.capb, h.nil, fun h0 => by
    obtain ⟨b, off, e1, e2, e3⟩ := h.cells h0
    obtain ⟨b', off', e1', hb⟩ := hne h0
    rw [e1] at e1'
    cases e1'
    exact ⟨_, _, e1, by simpa [World.setCell] using e2, fun j hj => by rw [World.cell?_setCell_far _ _ _ _ (by show g ≠ b; omega)]; exact e3 j hj⟩, h.bytes⟩
theorem zero55 : ∀ w, (zeroValue 55).run Try.prog w = .ok (.agg #[.int .u64 0, .slice none 0 0]) w := fun w => by kernel_rfl
set_option maxHeartbeats 2000000 in
theorem readPart_rp (w : World) (a : Option Addr) (len cap : Nat) (l : List Int) (t : Nat) (h : V.Has w a len cap l) (hb : len ≤ 1099511627776) (ht : t ≤ len) :
    Calls Try.prog 27 #[.slice a len cap, .int .i64 t] w fun e w' => ((∃ p k, rp (l.drop t) = some (p, k) ∧ t + k ≤ len ∧ ∃ a' m c', e = .returned (.tuple #[.agg #[.int .u64 (p.1 : Int), .slice a' m c'], .int .i64 ((t + k : Nat) : Int), .int .i64 0]) ∧ V.Has w' a' m c' p.2) ∨ (rp (l.drop t) = none ∧ ∃ m : Int, m ≠ 0 ∧ e = .returned (.tuple #[.agg #[.int .u64 0, .slice none 0 0], .int .i64 0, .int .i64 m]))) ∧ Below w.heap.size w w' := by
  have B0 : Hid (Below w.heap.size w (w.alloc (.cells #[.int .u64 0, .slice none 0 0] 55))) := (Below.refl _ w).alloc (Nat.le_refl _) _
  have H0 := hide (h.kept B0.out (Nat.le_refl _))
  have hbt : Hid (∀ x ∈ l, 0 ≤ x ∧ x ≤ 255) := h.bytes
  have hll : Hid (l.length = len) := h.hlen
  have X0 := hide (BoxP.new w 0 (.slice none 0 0))
  have r1 := hide (V.Read_rn _ a len cap l t H0.out hb ht)
  clear h
  go_enter Try.func27, Try.ntmps27
  go_wp2_with fail
  refine r1.out.mono ?_
  rintro e W1 ⟨⟨x, k, hx, rfl⟩ | ⟨hx, m, hm, rfl⟩, B1⟩
  · have b1 := hide (B0.out.trans (B1.mono B0.out.size))
    have G1 := hide (H0.out.kept B1 (Nat.le_refl _))
    have hk : t + k ≤ len := by
      have := (V.enc_rn (fun y hy => hbt.out y (List.mem_of_mem_drop hy)) hx).2.1
      rw [List.length_drop, hll.out] at this; omega
    have hx64 : (x : Int) < 18446744073709551616 := by
      have := (V.enc_rn (fun y hy => hbt.out y (List.mem_of_mem_drop hy)) hx).2.2.2
      omega
    obtain ⟨q, hq⟩ : ∃ q, t + k = q := ⟨_, rfl⟩
    rw [hq] at hk ⊢
    have r2 := hide (V.ReadBytes_rb W1 a len cap l q G1.out hb hk)
    have X1 := hide (X0.out.kept B1 X0.out.2.2.2)
    have hk1 : Hid (W1.heap[w.heap.size]? = some (.cells #[.int .u64 0, .slice none 0 0] 55 (0, 0))) := (B1.block _ X0.out.2.2.2).trans (heap_alloc_new w _)
    replace hx := hide hx
    replace hq := hide hq
    clear r1 B1
    go_wp2_with fail
    refine r2.out.mono ?_
    rintro e W2 ⟨⟨y, k2, hy, a2, m2, c2, rfl, H2⟩ | ⟨hy, m, hm, rfl⟩, B2⟩
    · have b2 := hide (b1.out.trans (B2.mono b1.out.size))
      have ap := hide (H2.apart (g := w.heap.size) (cs := #[.int .u64 0, .slice none 0 0]) ((B2.block _ (X1.out.2.2.2)).trans hk1.out) (by
        intro i x
        rcases i with _ | _ | i <;> simp))
      have hrl : Hid (rp (l.drop t) = some ((x, y), k + k2)) := by
        show _ = _
        unfold rp
        rw [hx.out]
        simp only
        rw [List.drop_drop, hq.out, hy]
      have X2 := X1.out.kept B2 X1.out.2.2.2
      have X3 := hide (X2.set x (.slice a2 m2 c2))
      have p5 := X2.other
      obtain ⟨⟨p0, p1⟩, p2, p3, p4⟩ := X2
      obtain ⟨⟨o0, o1⟩, -, -, -⟩ := X3.out
      have b3 := hide ((b2.out.setCell (p := ⟨w.heap.size, 0, none⟩) (Nat.le_refl _) (.int .u64 x)).setCell (p := ⟨w.heap.size, 1, none⟩) (Nat.le_refl _) (.slice a2 m2 c2))
      replace hy := hide hy
      replace H2 := hide H2
      clear r2 B2
      go_wp2_with fail
      refine bodyPost_ret (v := .tuple #[.agg #[.int .u64 (x : Int), .slice a2 m2 c2], .int .i64 ((q : Int) + (k2 : Int)), .int .i64 0]) (by simp [results, Try.f27, go_sem, o0, o1]) rfl ?_
      have hk2 : q + k2 ≤ len := by
        have := (V.pb_rb (fun y hy => hbt.out y (List.mem_of_mem_drop hy)) hy.out).2.1
        rw [List.length_drop, hll.out] at this; omega
      refine ⟨.inl ⟨_, _, hrl.out, by have := hq.out; omega, a2, m2, c2, ?_, ?_⟩, b3.out⟩
      · rw [show ((t + (k + k2) : Nat) : Int) = (q : Int) + (k2 : Int) by have := hq.out; omega]
      · exact ((H2.out.far2 (ap.out) 0 _).far2 (ap.out) 1 _)
    · have b2 := hide (b1.out.trans (B2.mono b1.out.size))
      have hrl : Hid (rp (l.drop t) = none) := by
        show _ = _
        unfold rp
        rw [hx.out]
        simp only
        rw [List.drop_drop, hq.out, hy]
      have X2 := X1.out.kept B2 X1.out.2.2.2
      have X3 := hide (X2.set 0 (.slice none 0 0))
      have p5 := X2.other
      obtain ⟨⟨p0, p1⟩, p2, p3, p4⟩ := X2
      obtain ⟨⟨o0, o1⟩, -, -, -⟩ := X3.out
      have b3 := hide ((b2.out.setCell (p := ⟨w.heap.size, 0, none⟩) (Nat.le_refl _) (.int .u64 0)).setCell (p := ⟨w.heap.size, 1, none⟩) (Nat.le_refl _) (.slice none 0 0))
      have hm' : (m != 0) = true := by rw [bne_iff_ne]; exact hm
      have hz9 := zero55
      clear r2 B2
      go_wp2_with fail
      refine bodyPost_ret (v := .tuple #[.agg #[.int .u64 0, .slice none 0 0], .int .i64 0, .int .i64 m]) (by simp [results, Try.f27, go_sem, o0, o1]) rfl ?_
      exact ⟨.inr ⟨hrl.out, m, hm, rfl⟩, b3.out⟩
  · have b1 := hide (B0.out.trans (B1.mono B0.out.size))
    have hrl : Hid (rp (l.drop t) = none) := by
      show _ = _
      unfold rp
      rw [hx]
    have X2 := X0.out.kept B1 X0.out.2.2.2
    have X3 := hide (X2.set 0 (.slice none 0 0))
    have p5 := X2.other
    obtain ⟨⟨p0, p1⟩, p2, p3, p4⟩ := X2
    obtain ⟨⟨o0, o1⟩, -, -, -⟩ := X3.out
    have b3 := hide ((b1.out.setCell (p := ⟨w.heap.size, 0, none⟩) (Nat.le_refl _) (.int .u64 0)).setCell (p := ⟨w.heap.size, 1, none⟩) (Nat.le_refl _) (.slice none 0 0))
    have hm' : (m != 0) = true := by rw [bne_iff_ne]; exact hm
    have hz9 := zero55
    clear r1 B1
    go_wp2_with fail
    refine bodyPost_ret (v := .tuple #[.agg #[.int .u64 0, .slice none 0 0], .int .i64 0, .int .i64 m]) (by simp [results, Try.f27, go_sem, o0, o1]) rfl ?_
    exact ⟨.inr ⟨hrl.out, m, hm, rfl⟩, b3.out⟩
end Go.Proofs.Ytbinnpadmajgpaa
