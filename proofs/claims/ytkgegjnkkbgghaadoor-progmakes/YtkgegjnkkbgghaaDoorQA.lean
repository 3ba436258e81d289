/-
  The builder.
-/
import Derived.Test.YtkgegjnkkbgghaaDoorA
import Derived.Shelf.Lay
import Derived.Shelf.Strings.Builder1
import Derived.Shelf.Small.Strs
namespace Go.Proofs.YtkgegjnkkbgghaaDoor
open Go.RowKit Go.Shelf Go.Lib
set_option linter.unusedVariables false
set_option linter.unusedSimpArgs false

shelf_lay Lays.n169 Nm 169 at Tryd as Tryd.laysST
theorem extraST : Builder.Extra Tryd.prog Tryd.laysST_ren where
  sizeBuilder := by kernel_rfl
  liesBuilder := by kernel_rfl
  t5 := Tryd.underlying5
  a5 := Tryd.isAgg5
  z5 := Tryd.sizeOf5
  v5 := Tryd.zeroValue5
  infoByte := by kernel_rfl
  cellsByte := by kernel_rfl
  sizeByte := by kernel_rfl
  neB5 := by decide
theorem size41 : (Tryd.prog.info? 61).map (·.size) = some 2 := by kernel_rfl
theorem st_any (B b : Nat) (l : List UInt8) (w : World) (h : IsBuilder 61 5 B b (byteCells l) w) (hBw : B ≤ w.heap.size) :
    Calls Tryd.prog 31 #[.pointer (some ⟨b, 0, none⟩)] w fun e w' => e = .returned (.string ⟨l.toArray⟩) ∧ Below B w w' :=
  Any.Builder_String_any Tryd.laysST extraST B b l w h hBw
set_option maxRecDepth 100000 in
/-- The first call of a method: the builder's own address lies in it behind it; its bytes are as they were. -/
theorem copy_any (B b : Nat) (bs : List Value) (w : World) (h : IsBuilder 61 5 B b bs w) :
    Calls Tryd.prog 44 #[.pointer (some ⟨b, 0, none⟩)] w fun e w' => e = .returned (.tuple #[]) ∧ BuilderAt 61 5 B b (.pointer (some ⟨b, 0, none⟩)) bs w' ∧ Below B w w' ∧ But (fun k => k = b) w w' := by
  obtain ⟨j, hj, hjs⟩ := Option.map_eq_some_iff.1 size41
  rcases h with h | h
  · have fin := hide (And.intro (h.used (.pointer (some ⟨b, 0, none⟩))) (And.intro ((Below.refl B w).setCell (p := ⟨b, 0, none⟩) h.1 (.pointer (some ⟨b, 0, none⟩))) (⟨rfl, rfl, rfl, by simp [World.setCell], fun k hk hn => Below.heap_setCell w ⟨b, 0, none⟩ _ k hn⟩ : But (fun k => k = b) w (w.setCell ⟨b, 0, none⟩ (.pointer (some ⟨b, 0, none⟩))))))
    have c0 := h.cell0
    have f0 := h.frozen0
    have hsh := hide h.shape
    clear h
    go_enter Tryd.func44, Tryd.ntmps44
    go_wp2
    rw [run_to_unsafe w ⟨b, 0, none⟩ Tryd.underlying58 Tryd.underlying102 hj (by omega) hsh.out (show 0 < 2 by omega), Result.andThen_ok, Oper.upon_value]
    go_wp2
    rw [run_callFunc_extern Tryd.func65 (by kernel_rfl) (by kernel_rfl) (by kernel_rfl) (e := Extern.AbiNoEscape.same) (by kernel_rfl), run_noEscape, Result.andThen_ok, Oper.upon_value]
    go_wp2
    rw [run_from_unsafe w ⟨b, 0, none⟩ Tryd.underlying102 Tryd.underlying58 hj hsh.out extraST.liesBuilder, Result.andThen_ok, Oper.upon_value]
    go_wp2
    go_end0
    exact ⟨rfl, fin.out⟩
  · have c0 := h.cell0
    replace h := hide h
    go_enter Tryd.func44, Tryd.ntmps44
    go_wp2
    rw [run_neq_ptr_same w _ Tryd.underlying58 hj]
    go_wp2
    go_end0
    exact ⟨rfl, h.out, Below.refl B _, But.refl _ _⟩
theorem new_byte (w : World) (x : Value) (j : Nat) (u : Value) (h : [x][j]? = some u) : (w.alloc (.cells #[x] 5)).cell? ((⟨w.heap.size, 0, none⟩ : Addr).add j) = some u := by
  cases j with
  | zero =>
    rw [show (⟨w.heap.size, 0, none⟩ : Addr).add 0 = ⟨w.heap.size, 0, none⟩ from rfl, cell_of_heap (heap_alloc_new w _)]
    simpa using h
  | succ j => simp at h
/-- A used builder's buffer, in whatever world comes behind; and what is so when another one is laid into it. -/
theorem buffer {B b : Nat} {p : Value} {bs : List Value} {w : World} (h : BuilderAt 61 5 B b p bs w) (hBw : B ≤ w.heap.size) :
    ∃ v, w.cell? ⟨b, 1, none⟩ = some v ∧ ∀ W, Below w.heap.size w W → W.ownsRow B 5 1 v bs.length bs ∧
      ∀ w2 v' xs, W.grownBy w2 v.ownBlock → w2.ownsRow B 5 1 v' xs.length xs →
        w2.cell? ⟨b, 1, none⟩ = some v ∧ w2.frozen? ⟨b, 1, none⟩ = false ∧ BuilderAt 61 5 B b p xs (w2.setCell ⟨b, 1, none⟩ v') ∧ Below B w (w2.setCell ⟨b, 1, none⟩ v') ∧ But (fun k => k = b ∨ v.ownBlock = some k) w (w2.setCell ⟨b, 1, none⟩ v') ∧ (∀ k, v.ownBlock = some k → k ≠ b ∧ ∃ xs, w.heap[k]? = some (.cells xs 5 (0, 0))) := by
  have hlt := h.lt
  obtain ⟨hB, v, hk, ho, hn⟩ := h
  refine ⟨v, by rw [cell_of_heap hk]; rfl, fun W hW => ⟨ho.kept (row := none) ⟨hW.os, hW.tape, hW.output, hW.size, fun k hk _ => hW.block k hk⟩ (Classical.em _), fun w2 v' xs hg ho2 => ?_⟩⟩
  have hs := hW.size
  have h2 := (hg.block b (by omega) (fun e => hn e.symm)).trans ((hW.block b hlt).trans hk)
  exact ⟨by rw [cell_of_heap h2]; rfl, frozen_of_heap h2 1, BuilderAt.put hB h2 ho2 (by decide), ((hW.mono hBw).grown hg (by omega) (fun k hk => (ho.lt k hk).1)).setCell (p := ⟨b, 1, none⟩) hB _, ((but_of_below hW _ (fun k h1 h2 => by omega)).grown hg (fun k e _ => .inr e)).trans (T := fun k => k = b) ⟨rfl, rfl, rfl, by simp [World.setCell], fun k hk hn => Below.heap_setCell w2 ⟨b, 1, none⟩ _ k hn⟩ (fun i _ h => .inl h), fun k hk => ⟨fun e => hn (e ▸ hk), (by rcases ho.2 with ⟨e, _⟩ | ⟨g, cp, cur, e, _, hg', _⟩; rw [e] at hk; cases hk; rw [e] at hk; cases hk; exact ⟨cur, hg'⟩)⟩⟩
/-- Nothing has turned but the builder's box and rows of bytes. -/
def Bz (b : Nat) (w w' : World) : Prop := But (fun k => k = b ∨ ∃ xs fr, w.heap[k]? = some (.cells xs 5 fr)) w w'
theorem bz_of {b : Nat} {w w1 w2 : World} {v : Value} (h1 : But (fun k => k = b) w w1) (h2 : But (fun k => k = b ∨ v.ownBlock = some k) w1 w2) (hv : ∀ k, v.ownBlock = some k → k ≠ b ∧ ∃ xs, w1.heap[k]? = some (.cells xs 5 (0, 0))) : Bz b w w2 :=
  (h1.mono (T := fun k => k = b ∨ ∃ xs fr, w.heap[k]? = some (.cells xs 5 fr)) (fun k h => .inl h)).trans h2 (fun i hi h => by
    rcases h with h | h
    · exact .inl h
    · obtain ⟨hne, xs, hx⟩ := hv i h
      exact .inr ⟨xs, (0, 0), (h1.block i hi hne).symm.trans hx⟩)
set_option maxHeartbeats 2000000 in
set_option maxRecDepth 100000 in
theorem wb_any (B b : Nat) (l : List UInt8) (c : UInt8) (w : World) (h : IsBuilder 61 5 B b (byteCells l) w) (hlen : l.length + 1 ≤ 140737488355328) (hBw : B ≤ w.heap.size) :
    Calls Tryd.prog 30 #[.pointer (some ⟨b, 0, none⟩), .int .u8 (c.toNat : Int)] w fun e w' => e = .returned .nilIface ∧ IsBuilder 61 5 B b (byteCells (l ++ [c])) w' ∧ Below B w w' ∧ Bz b w w' := by
  obtain ⟨i0, hi, hz0, hz1, hz2⟩ := info_parts extraST.infoByte
  rw [← byteCells_length l] at hlen
  rw [show byteCells (l ++ [c]) = byteCells l ++ [.int .u8 (c.toNat : Int)] by simp [byteCells]]
  generalize byteCells l = bs at *
  go_enter Tryd.func30, Tryd.ntmps30
  go_wp2_with (go_at_call 44; refine (copy_any B b bs _ h).mono ?_)
  rintro e w1 ⟨rfl, h1, B1, Bu1⟩
  have hB1 : B ≤ w1.heap.size := by have := B1.size; omega
  obtain ⟨v, c1, hv⟩ := buffer h1 hB1
  obtain ⟨o1, o2⟩ := hv _ ((Below.refl _ w1).alloc (Nat.le_refl _) (.cells #[.int .u8 (c.toNat : Int)] 5))
  replace o1 := hide o1
  replace o2 := hide o2
  replace B1 := hide B1
  replace Bu1 := hide Bu1
  clear h1 hv
  go_wp2_with (at_builtin; refine wpList_append_own _ rfl _ _ 59 rfl B 5 i0 (.int .u8 0) 1 1 Tryd.underlying59 hi hz0 hz1 hz2 rfl (by decide) _ _ _ rfl o1.out ⟨w1.heap.size, 0, none⟩ 1 1 [.int .u8 (c.toNat : Int)] rfl rfl (new_byte w1 _) ?c2 ?c3 ?c4 ?c5 ?_)
  case c2 => intro u hu; rw [List.mem_singleton.1 hu]; rfl
  case c3 => unfold maxLen; omega
  case c4 => omega
  case c5 => simp; omega
  intro v' w2 hv' hg _
  obtain ⟨a, k, rfl⟩ : ∃ a k, v' = .slice a (bs.length + 1) k := by
    rcases hv'.2 with ⟨_, h0⟩ | ⟨g, k, _, e, _⟩
    · omega
    · exact ⟨_, k, e⟩
  obtain ⟨d1, f1, r⟩ := o2.out w2 _ (bs ++ [.int .u8 (c.toNat : Int)]) hg (by simpa using hv')
  replace r := hide r
  clear hv' hg
  go_wp2
  go_ret
  exact ⟨rfl, .inr r.out.1, B1.out.trans r.out.2.1, bz_of Bu1.out r.out.2.2.1 r.out.2.2.2⟩
set_option maxHeartbeats 2000000 in
set_option maxRecDepth 100000 in
theorem ws_any (B b : Nat) (l : List UInt8) (s : ByteArray) (w : World) (h : IsBuilder 61 5 B b (byteCells l) w) (hlen : l.length + s.size ≤ 140737488355328) (hBw : B ≤ w.heap.size) :
    Calls Tryd.prog 27 #[.pointer (some ⟨b, 0, none⟩), .string s] w fun e w' => e = .returned (.tuple #[.int .i64 s.size, .nilIface]) ∧ IsBuilder 61 5 B b (byteCells (l ++ s.data.toList)) w' ∧ Below B w w' ∧ Bz b w w' := by
  obtain ⟨i0, hi, hz0, hz1, hz2⟩ := info_parts extraST.infoByte
  rw [← byteCells_length l] at hlen
  rw [show byteCells (l ++ s.data.toList) = byteCells l ++ strCells s by simp [byteCells, strCells]]
  generalize byteCells l = bs at *
  go_enter Tryd.func27, Tryd.ntmps27
  go_wp2_with (go_at_call 44; refine (copy_any B b bs _ h).mono ?_)
  rintro e w1 ⟨rfl, h1, B1, Bu1⟩
  have hB1 : B ≤ w1.heap.size := by have := B1.size; omega
  obtain ⟨v, c1, hv⟩ := buffer h1 hB1
  obtain ⟨o1, o2⟩ := hv _ (Below.refl _ w1)
  replace o1 := hide o1
  replace o2 := hide o2
  replace B1 := hide B1
  replace Bu1 := hide Bu1
  clear h1 hv
  go_wp2_with (at_builtin; refine wpList_append_own_string _ rfl _ _ 59 9 rfl B 5 i0 Tryd.underlying59 Tryd.underlying9 hi hz0 hz1 hz2 _ _ _ rfl o1.out s rfl ?c3 ?c4 ?c5 ?_)
  case c3 => unfold maxLen; omega
  case c4 => omega
  case c5 => exact hB1
  intro v' w2 hv' hg _
  obtain ⟨a, n, k, rfl⟩ : ∃ a n k, v' = .slice a n k := by
    rcases hv'.2 with ⟨e, _⟩ | ⟨g, k, _, e, _⟩
    · exact ⟨_, _, _, e⟩
    · exact ⟨_, _, _, e⟩
  obtain ⟨d1, f1, r⟩ := o2.out w2 _ (bs ++ strCells s) hg (by simpa [strCells_length] using hv')
  replace r := hide r
  clear hv' hg
  go_wp2
  go_ret2
  exact ⟨rfl, .inr r.out.1, B1.out.trans r.out.2.1, bz_of Bu1.out r.out.2.2.1 r.out.2.2.2⟩
/-- A letter. -/
def isLet (c : Int) : Bool := decide (97 ≤ c) && decide (c ≤ 122) || decide (65 ≤ c) && decide (c ≤ 90)
end Go.Proofs.YtkgegjnkkbgghaaDoor
