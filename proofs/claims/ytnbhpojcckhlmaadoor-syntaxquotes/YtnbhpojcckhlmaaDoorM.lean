/-
  Rows of patterns of one's own; together; laws for the walk of the parser.
-/
import Derived.Test.YtnbhpojcckhlmaaDoorL
import Derived.Deep.AppendLies
namespace Go.Proofs.YtnbhpojcckhlmaaDoor
open Go.RowKit
set_option linter.unusedVariables false
set_option linter.unusedSimpArgs false

theorem ld3 {w : World} {ad : Addr} {v : Value} (h : w.cell? ad = some v) : (loadVar 3 ad).run Tryd.prog w = .ok v w := by
  have ha : ∀ w, (isAgg 3).run Tryd.prog w = .ok false w := fun w => by kernel_rfl
  simp [loadVar, ha, go_sem, h]
theorem ld4 {w : World} {ad : Addr} {v : Value} (h : w.cell? ad = some v) : (loadVar 4 ad).run Tryd.prog w = .ok v w := by
  have ha : ∀ w, (isAgg 4).run Tryd.prog w = .ok false w := fun w => by kernel_rfl
  simp [loadVar, ha, go_sem, h]
theorem ld9 {w : World} {ad : Addr} {v : Value} (h : w.cell? ad = some v) : (loadVar 9 ad).run Tryd.prog w = .ok v w := by
  have ha : ∀ w, (isAgg 9).run Tryd.prog w = .ok false w := fun w => by kernel_rfl
  simp [loadVar, ha, go_sem, h]
theorem ld26 {w : World} {ad : Addr} {v : Value} (h : w.cell? ad = some v) : (loadVar 26 ad).run Tryd.prog w = .ok v w := by
  have ha : ∀ w, (isAgg 26).run Tryd.prog w = .ok false w := fun w => by kernel_rfl
  simp [loadVar, ha, go_sem, h]
theorem ld59 {w : World} {ad : Addr} {v : Value} (h : w.cell? ad = some v) : (loadVar 59 ad).run Tryd.prog w = .ok v w := by
  have ha : ∀ w, (isAgg 59).run Tryd.prog w = .ok false w := fun w => by kernel_rfl
  simp [loadVar, ha, go_sem, h]
theorem ld70 {w : World} {ad : Addr} {v : Value} (h : w.cell? ad = some v) : (loadVar 70 ad).run Tryd.prog w = .ok v w := by
  have ha : ∀ w, (isAgg 70).run Tryd.prog w = .ok false w := fun w => by kernel_rfl
  simp [loadVar, ha, go_sem, h]
theorem load28c {w : World} {b o : Nat} {k : Int} {s : S4} {l : Value} {mn mx : Int} (h : ∀ j v, (reA k s l mn mx)[j]? = some v → w.cell? ⟨b, o + j, none⟩ = some v) : (loadVar 28 ⟨b, o, none⟩).run Tryd.prog w = .ok (reV k s l mn mx) w := by
  have h0 := h 0 _ rfl
  have h1 := h 1 _ rfl
  have h2 := h 2 _ rfl
  have h3 := h 3 _ rfl
  have h4 := h 4 _ rfl
  have h5 := h 5 _ rfl
  have h6 := h 6 _ rfl
  have h7 := h 7 _ rfl
  have hz : ∀ w, (sizeOf 28).run Tryd.prog w = .ok 8 w := fun w => by kernel_rfl
  have ha : ∀ w, (isAgg 28).run Tryd.prog w = .ok true w := fun w => by kernel_rfl
  simp only [Nat.add_zero] at h0
  simp [loadVar, hz, ha, loadCells, go_sem, h0, h1, h2, h3, h4, h5, h6, h7, add_plain]
  rfl
section
variable {S : Nat → Prop} {w0 w w' : World} {L : List Ent} {ops : Array Oper} {rest : List Oper} {a : Act} {Q : Exit → Act → World → Prop} {dst : Option Nat} {x y : Operand} {ty : TypeId} {pos : String} {after : Array Edge}
/-- A cell of a box is loaded. -/
theorem wl_ld3 (i j : Nat) (H : St S w0 w L) {b : Bool} {g : Nat} {t : TypeId} {xs : Array Value} {v : Value} (h : L[i]? = some (b, g, t, xs)) (hv : xs[j]? = some v) (hx : a.eval x = .pointer (some ⟨g, j, none⟩)) (k : wpList Tryd.prog ops Q rest (a.put dst v) w) : wpList Tryd.prog ops Q (⟨dst, .load 3 x, ty, pos, after, none⟩ :: rest) a w := wl_loadA 3 hx (ld3 (H.cell i j h hv)) k
theorem wl_ld4 (i j : Nat) (H : St S w0 w L) {b : Bool} {g : Nat} {t : TypeId} {xs : Array Value} {v : Value} (h : L[i]? = some (b, g, t, xs)) (hv : xs[j]? = some v) (hx : a.eval x = .pointer (some ⟨g, j, none⟩)) (k : wpList Tryd.prog ops Q rest (a.put dst v) w) : wpList Tryd.prog ops Q (⟨dst, .load 4 x, ty, pos, after, none⟩ :: rest) a w := wl_loadA 4 hx (ld4 (H.cell i j h hv)) k
theorem wl_ld9 (i j : Nat) (H : St S w0 w L) {b : Bool} {g : Nat} {t : TypeId} {xs : Array Value} {v : Value} (h : L[i]? = some (b, g, t, xs)) (hv : xs[j]? = some v) (hx : a.eval x = .pointer (some ⟨g, j, none⟩)) (k : wpList Tryd.prog ops Q rest (a.put dst v) w) : wpList Tryd.prog ops Q (⟨dst, .load 9 x, ty, pos, after, none⟩ :: rest) a w := wl_loadA 9 hx (ld9 (H.cell i j h hv)) k
theorem wl_ld26 (i j : Nat) (H : St S w0 w L) {b : Bool} {g : Nat} {t : TypeId} {xs : Array Value} {v : Value} (h : L[i]? = some (b, g, t, xs)) (hv : xs[j]? = some v) (hx : a.eval x = .pointer (some ⟨g, j, none⟩)) (k : wpList Tryd.prog ops Q rest (a.put dst v) w) : wpList Tryd.prog ops Q (⟨dst, .load 26 x, ty, pos, after, none⟩ :: rest) a w := wl_loadA 26 hx (ld26 (H.cell i j h hv)) k
theorem wl_ld59 (i j : Nat) (H : St S w0 w L) {b : Bool} {g : Nat} {t : TypeId} {xs : Array Value} {v : Value} (h : L[i]? = some (b, g, t, xs)) (hv : xs[j]? = some v) (hx : a.eval x = .pointer (some ⟨g, j, none⟩)) (k : wpList Tryd.prog ops Q rest (a.put dst v) w) : wpList Tryd.prog ops Q (⟨dst, .load 59 x, ty, pos, after, none⟩ :: rest) a w := wl_loadA 59 hx (ld59 (H.cell i j h hv)) k
theorem wl_ld70 (i j : Nat) (H : St S w0 w L) {b : Bool} {g : Nat} {t : TypeId} {xs : Array Value} {v : Value} (h : L[i]? = some (b, g, t, xs)) (hv : xs[j]? = some v) (hx : a.eval x = .pointer (some ⟨g, j, none⟩)) (k : wpList Tryd.prog ops Q rest (a.put dst v) w) : wpList Tryd.prog ops Q (⟨dst, .load 70 x, ty, pos, after, none⟩ :: rest) a w := wl_loadA 70 hx (ld70 (H.cell i j h hv)) k
/-- A number, or a truth, is stored into a box of one cell. -/
theorem wl_st3 (i : Nat) (H : St S w0 w L) {g : Nat} {u : Value} {v : Int} (h : L[i]? = some (true, g, 3, #[u])) (hx : a.eval x = .pointer (some ⟨g, 0, none⟩)) (hy : a.eval y = .int .i64 v)
    (k : ∀ w', St S w0 w' (L.set i (true, g, 3, #[.int .i64 v])) → wpList Tryd.prog ops Q rest a w') : wpList Tryd.prog ops Q (⟨none, .store 3 x y, ty, pos, after, none⟩ :: rest) a w :=
  wl_store1 i 0 3 H h hx hy (by simp) one3 rfl k
theorem wl_st4 (i : Nat) (H : St S w0 w L) {g : Nat} {u : Value} {v : Bool} (h : L[i]? = some (true, g, 4, #[u])) (hx : a.eval x = .pointer (some ⟨g, 0, none⟩)) (hy : a.eval y = .bool v)
    (k : ∀ w', St S w0 w' (L.set i (true, g, 4, #[.bool v])) → wpList Tryd.prog ops Q rest a w') : wpList Tryd.prog ops Q (⟨none, .store 4 x y, ty, pos, after, none⟩ :: rest) a w :=
  wl_store1 i 0 4 H h hx hy (by simp) one4 rfl k
/-- From here on: what may be written are the boxes. -/
theorem St.rebase (H : St S w0 w L) (S' : Nat → Prop) (h : ∀ x ∈ L, x.1 = true → S' x.2.1) : St S' w w L := ⟨But.refl _ _, H.all, fun x hx hr _ => h x hx hr, H.nd⟩
theorem St.grown (H : St S w0 w L) {row : Option Nat} (hg : w.grownBy w' row) (hr : ∀ k, row = some k → (∀ x ∈ L, x.2.1 ≠ k) ∧ (k < w0.heap.size → S k)) : St S w0 w' L :=
  ⟨H.but.grown hg (fun k hk => (hr k hk).2), fun x hx => by
    rw [hg.block _ (H.lt hx) (fun e => (hr _ e.symm).1 x hx rfl)]; exact H.all x hx, H.ok, H.nd⟩
end
/-- A row of patterns of the call's own: v has the patterns f. -/
def Rw (w : World) (base : Nat) (v : Value) (f : Fo) : Prop := ∃ xs, w.ownsRow base 28 8 v f.len xs ∧ Kd w (fun b => base ≤ b ∧ v.ownBlock ≠ some b) f xs
theorem Rw.start (w : World) (base : Nat) : Rw w base (.slice none 0 0) .nil := ⟨[], ⟨rfl, .inl ⟨rfl, rfl⟩⟩, rfl⟩
theorem Rw.kept {w w' : World} {base : Nat} {v : Value} {f : Fo} (h : Rw w base v f) (hb : ∀ b, base ≤ b → b < w.heap.size → w'.heap[b]? = w.heap[b]?) : Rw w' base v f := by
  obtain ⟨xs, o, k⟩ := h
  exact ⟨xs, owns8_of_block o (fun b hk => hb b (owns8_lt o hk).1 (owns8_lt o hk).2), k.kept (fun b hP hl => hb b hP.1 hl)⟩
theorem Rw.lt {w : World} {base : Nat} {v : Value} {f : Fo} (h : Rw w base v f) {k : Nat} (hk : v.ownBlock = some k) : base ≤ k ∧ k < w.heap.size := by
  obtain ⟨xs, o, _⟩ := h
  exact owns8_lt o hk
theorem reA_one {k : Int} {s : S4} {v : Value} {mn mx : Int} (hv : v.oneCell' = true) : ∀ u ∈ (reA k s v mn mx).toList, u.oneCell' = true := fun u hu => by
  have h1 : ∀ k n, (Value.int k n).oneCell' = true := fun _ _ => rfl
  simp only [reA, List.mem_cons, List.not_mem_nil, or_false] at hu
  rcases hu with rfl | rfl | rfl | rfl | rfl | rfl | rfl | rfl <;> first | exact h1 _ _ | exact hv
theorem run_bs26 (k : Int) (s : S4) (v : Value) (mn mx : Int) (w : World) : (Instr.buildSlice 26 1 #[(0, reV k s v mn mx)]).run Tryd.prog w = .ok (.slice (some ⟨w.heap.size, 0, none⟩) 1 1) (w.alloc (.cells (reA k s v mn mx) 28)) := by kernel_rfl
section
variable {S : Nat → Prop} {w0 w w' : World} {L : List Ent} {ops : Array Oper} {rest : List Oper} {a : Act} {Q : Exit → Act → World → Prop} {x y : Operand} {ty ty2 : TypeId} {pos pos2 : String} {after after2 : Array Edge}
theorem at_snoc {d1 d2 : Nat} {s x : Operand} (h : wpList Tryd.prog ops Q (⟨some d1, .buildSlice 26 1 #[(0, x)], ty, pos, after, none⟩ :: ⟨some d2, .call { callee := .builtin .append, args := #[s, .tmp d1], argTypes := #[26, 26] }, ty2, pos2, after2, none⟩ :: rest) a w) :
    wpList Tryd.prog ops Q (⟨some d1, .buildSlice 26 1 #[(0, x)], ty, pos, after, none⟩ :: ⟨some d2, .call { callee := .builtin .append, args := #[s, .tmp d1], argTypes := #[26, 26] }, ty2, pos2, after2, none⟩ :: rest) a w := h
/-- A pattern is appended to a row of one's own. -/
theorem wl_snoc {d1 d2 : Nat} {s : Operand} (H : St S w0 w L) {base m : Nat} {v z : Value} {f : Fo} {t : Tr} (R : Rw w base v f) (T : TrV w (fun b => m ≤ b) z t) (hs : ∀ u, (a.put (some d1) u).eval s = v) (ht : ∀ u, (a.put (some d1) u).eval (.tmp d1) = u) (hx : a.eval x = z)
    (hm : ∀ k, v.ownBlock = some k → k < m) (hbm : base ≤ m) (hmw : m ≤ w.heap.size) (hf : f.len ≤ 1000000) (hL : ∀ e ∈ L, e.2.1 < base) (h0 : w0.heap.size ≤ base)
    (k : ∀ u v2 w2, St S w0 w2 L → Rw w2 base v2 (f.snoc t) → w.heap.size ≤ w2.heap.size → wpList Tryd.prog ops Q rest ((a.put (some d1) u).put (some d2) v2) w2) :
    wpList Tryd.prog ops Q (⟨some d1, .buildSlice 26 1 #[(0, x)], ty, pos, after, none⟩ :: ⟨some d2, .call { callee := .builtin .append, args := #[s, .tmp d1], argTypes := #[26, 26] }, ty2, pos2, after2, none⟩ :: rest) a w := by
  obtain ⟨i0, hi, hz0, hz1, hz2⟩ := info28
  obtain ⟨u, zs, rfl, o, p, kd⟩ := T
  obtain ⟨xs, ro, rk⟩ := R
  obtain ⟨ua, uc, hu, _, _⟩ := owns8_val o
  have hu1 : u.oneCell' = true := by rw [hu]; rfl
  refine wpList_plain rfl fun K hK => ?_
  unfold Oper.wp execOp
  simp only [List.map_toArray, List.map_cons, List.map_nil, hx, Sem.run_bind, run_bs26, Result.andThen_ok, Sem.run_pure]
  refine hK _ _ ?_
  generalize hA : reA t.1.k t.1.s u t.1.mn t.1.mx = A at *
  have hAl : A.toList.length = 8 := by rw [← hA]; rfl
  have hold : ∀ b, b < w.heap.size → (w.alloc (.cells A 28)).heap[b]? = w.heap[b]? := fun b hb => Below.heap_alloc _ _ _ hb
  refine wpList_append_lies (P := Tryd.prog) (w := w.alloc (.cells A 28)) rfl s (.tmp d1) 26 rfl base 28 i0 (reV 0 noSet (.slice none 0 0) 0 0) 8 80 Tryd.underlying26 hi hz0 hz1 hz2 rfl (by decide) v f.len xs (hs _) (owns8_of_block ro (fun b hb => hold b (owns8_lt ro hb).2)) ⟨w.heap.size, 0, none⟩ 1 1 A.toList (ht _) (by omega) ?_ (by rw [← hA]; exact reA_one hu1) (by omega) (by unfold maxLen; omega) (by omega) (by simp; omega) (w.heap.size + 1) (by simp) ?_
  · intro j v' hj
    rw [add_plain, Nat.zero_add, cell_of_row _ _ _ _ _ _ (heap_alloc_new w _)]
    simpa using hj
  · intro g cap w2 hown hg hat hlt
    have H1 := (H.alloc 28 A).tail
    have hsz : w.heap.size ≤ w2.heap.size := by have := hg.size; simp at this; omega
    refine k _ _ w2 (H1.grown hg (fun j hj => ⟨fun e he => ?_, fun hl => ?_⟩)) ⟨xs ++ A.toList, by rw [Fo.len_snoc]; exact hown, ?_⟩ hsz
    · have := hL e he
      have := owns8_lt ro hj
      omega
    · have := owns8_lt ro hj
      omega
    · have keep : ∀ b, b < w.heap.size → v.ownBlock ≠ some b → w2.heap[b]? = w.heap[b]? := fun b hb hn => by
        rw [hg.block b (by simp; omega) (fun e => hn e.symm), hold b hb]
      have ne : ∀ b, b < w.heap.size → v.ownBlock ≠ some b → (Value.slice (some ⟨g, 0, none⟩) (f.len + 1) cap).ownBlock ≠ some b := fun b hb hn e => by
        have e2 : g = b := by simpa [Value.ownBlock] using e
        rcases hat with h | h
        · exact hn (by rw [h, e2])
        · omega
      have far : ∀ b, m ≤ b → v.ownBlock ≠ some b := fun b hb e => by have := hm b e; omega
      have step : ∀ {ff : Fo} {ys : List Value} {PP : Nat → Prop}, Kd w PP ff ys → (∀ b, PP b → base ≤ b ∧ v.ownBlock ≠ some b) → Kd w2 (fun b => base ≤ b ∧ (Value.slice (some ⟨g, 0, none⟩) (f.len + 1) cap).ownBlock ≠ some b) ff ys := fun hk hP =>
        ((hk.mono (P' := fun b => (base ≤ b ∧ (Value.slice (some ⟨g, 0, none⟩) (f.len + 1) cap).ownBlock ≠ some b) ∧ v.ownBlock ≠ some b) (fun b hb hp => ⟨⟨(hP b hp).1, ne b hb (hP b hp).2⟩, (hP b hp).2⟩)).kept (w' := w2) (fun b hp hl => keep b hl hp.2)).mono (fun b _ hp => hp.1)
      have o2 := owns8_of_block (w' := w2) o (fun b hb => keep b (owns8_lt o hb).2 (far b (p b hb)))
      rw [← hA]
      refine Kd.snoc o2 (fun b hb => ⟨by have := p b hb; omega, ne b (owns8_lt o hb).2 (far b (p b hb))⟩) (step kd (fun b hb => ⟨by omega, far b hb⟩)) (step rk (fun b hb => hb))
end
end Go.Proofs.YtnbhpojcckhlmaaDoor
