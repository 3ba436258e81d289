/-
  Quoted texts: the builder: copyCheck, WriteByte, WriteString walked at this program; String, IndexByte by the shelf; isLetter. Quote. Mathematics: a quoted text is read as its bytes.
-/
import Derived.Test.YtkfdikpnnkbgaaaGreatDoorA
import Derived.Shelf.Lay
import Derived.Shelf.Strings.Builder1
import Derived.Shelf.Small.Strs
import Derived.Test.YtkfdikpnnkbgaaaGreatDoorX
import Derived.Lib.IndexAny
import Derived.Test.YtkfdikpnnkbgaaaGreatDoorT
namespace Go.Proofs.YtkfdikpnnkbgaaaGreatDoor.Q
open Go.RowKit Go.Shelf Go.Lib
set_option linter.unusedVariables false
set_option linter.unusedSimpArgs false

shelf_lay Lays.n169 Nm 169 at Tryz as Tryz.laysST
shelf_lay Lays.n137 Nm 137 at Tryz as Tryz.laysIX
theorem extraST : Builder.Extra Tryz.prog Tryz.laysST_ren where
  sizeBuilder := by kernel_rfl
  liesBuilder := by kernel_rfl
  t5 := Tryz.underlying5
  a5 := Tryz.isAgg5
  z5 := Tryz.sizeOf5
  v5 := Tryz.zeroValue5
  infoByte := by kernel_rfl
  cellsByte := by kernel_rfl
  sizeByte := by kernel_rfl
  neB5 := by decide
theorem size41 : (Tryz.prog.info? 91).map (·.size) = some 2 := by kernel_rfl
theorem st_any (B b : Nat) (l : List UInt8) (w : World) (h : IsBuilder 91 5 B b (byteCells l) w) (hBw : B ≤ w.heap.size) :
    Calls Tryz.prog 46 #[.pointer (some ⟨b, 0, none⟩)] w fun e w' => e = .returned (.string ⟨l.toArray⟩) ∧ Below B w w' :=
  Any.Builder_String_any Tryz.laysST extraST B b l w h hBw
theorem ix_any (s : ByteArray) (c : Int) (w : World) : Calls Tryz.prog 43 #[.string s, .int .u8 c] w fun e w' => e = .returned (.int .i64 (Lib.indexByte s.data.toList c.toNat.toUInt8)) ∧ w' = w :=
  Any.strings_IndexByte Tryz.laysIX s c w

set_option maxRecDepth 100000 in
/-- The first call of a method: the builder's own address lies in it behind it; its bytes are as they were. -/
theorem copy_any (B b : Nat) (bs : List Value) (w : World) (h : IsBuilder 91 5 B b bs w) :
    Calls Tryz.prog 77 #[.pointer (some ⟨b, 0, none⟩)] w fun e w' => e = .returned (.tuple #[]) ∧ BuilderAt 91 5 B b (.pointer (some ⟨b, 0, none⟩)) bs w' ∧ Below B w w' := by
  obtain ⟨j, hj, hjs⟩ := Option.map_eq_some_iff.1 size41
  rcases h with h | h
  · have fin := hide (And.intro (h.used (.pointer (some ⟨b, 0, none⟩))) ((Below.refl B w).setCell (p := ⟨b, 0, none⟩) h.1 (.pointer (some ⟨b, 0, none⟩))))
    have c0 := h.cell0
    have f0 := h.frozen0
    have hsh := hide h.shape
    clear h
    go_enter Tryz.func77, Tryz.ntmps77
    go_wp2
    rw [run_to_unsafe w ⟨b, 0, none⟩ Tryz.underlying89 Tryz.underlying168 hj (by omega) hsh.out (show 0 < 2 by omega), Result.andThen_ok, Oper.upon_value]
    go_wp2
    rw [run_callFunc_extern Tryz.func115 (by kernel_rfl) (by kernel_rfl) (by kernel_rfl) (e := Extern.AbiNoEscape.same) (by kernel_rfl), run_noEscape, Result.andThen_ok, Oper.upon_value]
    go_wp2
    rw [run_from_unsafe w ⟨b, 0, none⟩ Tryz.underlying168 Tryz.underlying89 hj hsh.out extraST.liesBuilder, Result.andThen_ok, Oper.upon_value]
    go_wp2
    go_end0
    exact ⟨rfl, fin.out⟩
  · have c0 := h.cell0
    replace h := hide h
    go_enter Tryz.func77, Tryz.ntmps77
    go_wp2
    rw [run_neq_ptr_same w _ Tryz.underlying89 hj]
    go_wp2
    go_end0
    exact ⟨rfl, h.out, Below.refl B _⟩
theorem new_byte (w : World) (x : Value) (j : Nat) (u : Value) (h : [x][j]? = some u) : (w.alloc (.cells #[x] 5)).cell? ((⟨w.heap.size, 0, none⟩ : Addr).add j) = some u := by
  cases j with
  | zero =>
    rw [show (⟨w.heap.size, 0, none⟩ : Addr).add 0 = ⟨w.heap.size, 0, none⟩ from rfl, cell_of_heap (heap_alloc_new w _)]
    simpa using h
  | succ j => simp at h
/-- A used builder's buffer, in whatever world comes behind; and what is so when another one is laid into it. -/
theorem buffer {B b : Nat} {p : Value} {bs : List Value} {w : World} (h : BuilderAt 91 5 B b p bs w) (hBw : B ≤ w.heap.size) :
    ∃ v, w.cell? ⟨b, 1, none⟩ = some v ∧ ∀ W, Below w.heap.size w W → W.ownsRow B 5 1 v bs.length bs ∧
      ∀ w2 v' xs, W.grownBy w2 v.ownBlock → w2.ownsRow B 5 1 v' xs.length xs →
        w2.cell? ⟨b, 1, none⟩ = some v ∧ w2.frozen? ⟨b, 1, none⟩ = false ∧ BuilderAt 91 5 B b p xs (w2.setCell ⟨b, 1, none⟩ v') ∧ Below B w (w2.setCell ⟨b, 1, none⟩ v') := by
  have hlt := h.lt
  obtain ⟨hB, v, hk, ho, hn⟩ := h
  refine ⟨v, by rw [cell_of_heap hk]; rfl, fun W hW => ⟨ho.kept (row := none) ⟨hW.os, hW.tape, hW.output, hW.size, fun k hk _ => hW.block k hk⟩ (Classical.em _), fun w2 v' xs hg ho2 => ?_⟩⟩
  have hs := hW.size
  have h2 := (hg.block b (by omega) (fun e => hn e.symm)).trans ((hW.block b hlt).trans hk)
  exact ⟨by rw [cell_of_heap h2]; rfl, frozen_of_heap h2 1, BuilderAt.put hB h2 ho2 (by decide), ((hW.mono hBw).grown hg (by omega) (fun k hk => (ho.lt k hk).1)).setCell (p := ⟨b, 1, none⟩) hB _⟩
set_option maxHeartbeats 2000000 in
set_option maxRecDepth 100000 in
set_option maxRecDepth 100000 in
theorem wb_any (B b : Nat) (l : List UInt8) (c : UInt8) (w : World) (h : IsBuilder 91 5 B b (byteCells l) w) (hlen : l.length + 1 ≤ 140737488355328) (hBw : B ≤ w.heap.size) :
    Calls Tryz.prog 44 #[.pointer (some ⟨b, 0, none⟩), .int .u8 (c.toNat : Int)] w fun e w' => e = .returned .nilIface ∧ IsBuilder 91 5 B b (byteCells (l ++ [c])) w' ∧ Below B w w' := by
  obtain ⟨i0, hi, hz0, hz1, hz2⟩ := info_parts extraST.infoByte
  rw [← byteCells_length l] at hlen
  rw [show byteCells (l ++ [c]) = byteCells l ++ [.int .u8 (c.toNat : Int)] by simp [byteCells]]
  generalize byteCells l = bs at *
  go_enter Tryz.func44, Tryz.ntmps44
  go_wp2_with (go_at_call 77; refine (copy_any B b bs _ h).mono ?_)
  rintro e w1 ⟨rfl, h1, B1⟩
  have hB1 : B ≤ w1.heap.size := by have := B1.size; omega
  obtain ⟨v, c1, hv⟩ := buffer h1 hB1
  obtain ⟨o1, o2⟩ := hv _ ((Below.refl _ w1).alloc (Nat.le_refl _) (.cells #[.int .u8 (c.toNat : Int)] 5))
  replace o1 := hide o1
  replace o2 := hide o2
  replace B1 := hide B1
  clear h1 hv
  go_wp2_with (at_builtin; refine wpList_append_own _ rfl _ _ 48 rfl B 5 i0 (.int .u8 0) 1 1 Tryz.underlying48 hi hz0 hz1 hz2 rfl (by decide) _ _ _ rfl o1.out ⟨w1.heap.size, 0, none⟩ 1 1 [.int .u8 (c.toNat : Int)] rfl rfl (new_byte w1 _) ?c2 ?c3 ?c4 ?c5 ?_)
  case c2 => intro u hu; rw [List.mem_singleton.1 hu]; rfl
  case c3 => unfold maxLen; omega
  case c4 => omega
  case c5 => simp; omega
  intro v' w2 hv' hg _
  obtain ⟨a, k, rfl⟩ : ∃ a k, v' = .slice a (bs.length + 1) k := by
    rcases hv'.2 with ⟨_, h0⟩ | ⟨g, k, _, e, _⟩
    · omega
    · exact ⟨_, k, e⟩
  obtain ⟨d1, f1, r⟩ := o2.out w2 _ (bs ++ [.int .u8 (c.toNat : Int)]) hg (by simpa using hv')
  replace r := hide r
  clear hv' hg
  go_wp2
  go_ret
  exact ⟨rfl, .inr r.out.1, B1.out.trans r.out.2⟩
set_option maxHeartbeats 2000000 in
set_option maxRecDepth 100000 in
set_option maxRecDepth 100000 in
theorem ws_any (B b : Nat) (l : List UInt8) (s : ByteArray) (w : World) (h : IsBuilder 91 5 B b (byteCells l) w) (hlen : l.length + s.size ≤ 140737488355328) (hBw : B ≤ w.heap.size) :
    Calls Tryz.prog 45 #[.pointer (some ⟨b, 0, none⟩), .string s] w fun e w' => e = .returned (.tuple #[.int .i64 s.size, .nilIface]) ∧ IsBuilder 91 5 B b (byteCells (l ++ s.data.toList)) w' ∧ Below B w w' := by
  obtain ⟨i0, hi, hz0, hz1, hz2⟩ := info_parts extraST.infoByte
  rw [← byteCells_length l] at hlen
  rw [show byteCells (l ++ s.data.toList) = byteCells l ++ strCells s by simp [byteCells, strCells]]
  generalize byteCells l = bs at *
  go_enter Tryz.func45, Tryz.ntmps45
  go_wp2_with (go_at_call 77; refine (copy_any B b bs _ h).mono ?_)
  rintro e w1 ⟨rfl, h1, B1⟩
  have hB1 : B ≤ w1.heap.size := by have := B1.size; omega
  obtain ⟨v, c1, hv⟩ := buffer h1 hB1
  obtain ⟨o1, o2⟩ := hv _ (Below.refl _ w1)
  replace o1 := hide o1
  replace o2 := hide o2
  replace B1 := hide B1
  clear h1 hv
  go_wp2_with (at_builtin; refine wpList_append_own_string _ rfl _ _ 48 9 rfl B 5 i0 Tryz.underlying48 Tryz.underlying9 hi hz0 hz1 hz2 _ _ _ rfl o1.out s rfl ?c3 ?c4 ?c5 ?_)
  case c3 => unfold maxLen; omega
  case c4 => omega
  case c5 => exact hB1
  intro v' w2 hv' hg _
  obtain ⟨a, n, k, rfl⟩ : ∃ a n k, v' = .slice a n k := by
    rcases hv'.2 with ⟨e, _⟩ | ⟨g, k, _, e, _⟩
    · exact ⟨_, _, _, e⟩
    · exact ⟨_, _, _, e⟩
  obtain ⟨d1, f1, r⟩ := o2.out w2 _ (bs ++ strCells s) hg (by simpa [strCells_length] using hv')
  replace r := hide r
  clear hv' hg
  go_wp2
  go_ret2
  exact ⟨rfl, .inr r.out.1, B1.out.trans r.out.2⟩
/-- A letter. -/
def isLet (c : Int) : Bool := decide (97 ≤ c) && decide (c ≤ 122) || decide (65 ≤ c) && decide (c ≤ 90)
theorem letter_any (c : Int) (w : World) : Calls Tryz.prog 41 #[.int .u8 c] w fun e w' => e = .returned (.bool (isLet c)) ∧ w' = w := by
  by_cases h1 : 97 ≤ c <;> by_cases h2 : c ≤ 122 <;> by_cases h3 : 65 ≤ c <;> by_cases h4 : c ≤ 90
  all_goals first | (exfalso; omega) | skip
  all_goals
    simp only [isLet, h1, h2, h3, h4, decide_true, decide_false, Bool.and_true, Bool.true_and, Bool.and_false, Bool.false_and, Bool.or_true, Bool.true_or, Bool.or_false, Bool.false_or]
    go_enter Tryz.func41, Tryz.ntmps41
    go_wp2
    go_ret
    exact ⟨by first | rfl | simp, rfl⟩
end Go.Proofs.YtkfdikpnnkbgaaaGreatDoor.Q
namespace Go.Proofs.YtkfdikpnnkbgaaaGreatDoor.Q
open Go.RowKit Go.Shelf Go.Lib

set_option linter.unusedVariables false
set_option linter.unusedSimpArgs false

/-- The other bytes that stand for themselves. -/
def plS : ByteArray := ⟨#[95, 44, 58, 59, 60, 61, 62, 64, 33, 34, 35, 37, 38, 39, 126]⟩
/-- A byte that stands for itself. -/
def plB (c : UInt8) : Bool := isLet (c.toNat : Int) || isDig (c.toNat : Int) || plS.data.toList.contains c
/-- The digits to the base 16. -/
def dgS : ByteArray := ⟨#[48, 49, 50, 51, 52, 53, 54, 55, 56, 57, 97, 98, 99, 100, 101, 102]⟩
def dg (n : Nat) : UInt8 := dgS.data.toList.getD n 0
def qc (c : UInt8) : List UInt8 := if plB c = true then [c] else [92, 120, dg (c.toNat / 16), dg (c.toNat % 16)]
def quo (l : List UInt8) : List UInt8 := l.flatMap qc
theorem quo_snoc (l : List UInt8) (c : UInt8) : quo (l ++ [c]) = quo l ++ qc c := by simp [quo]
theorem quo_len (l : List UInt8) : (quo l).length ≤ 4 * l.length := by
  induction l with
  | nil => simp [quo]
  | cons a l ih =>
    have h1 : (qc a).length ≤ 4 := by unfold qc; split <;> simp
    have h2 : quo (a :: l) = qc a ++ quo l := by simp [quo]
    rw [h2]; simp; omega
theorem u8_lt (c : UInt8) : c.toNat < 256 := UInt8.toNat_lt c
theorem dig_at {n : Nat} (hn : n < 16) (h : n < (⟨#[48, 49, 50, 51, 52, 53, 54, 55, 56, 57, 97, 98, 99, 100, 101, 102]⟩ : ByteArray).size) : ((⟨#[48, 49, 50, 51, 52, 53, 54, 55, 56, 57, 97, 98, 99, 100, 101, 102]⟩ : ByteArray)[n]'h) = dg n := by
  have : ∀ n : Fin 16, dgS.data[n.1]? = some (dg n.1) := by decide +kernel
  have h2 := this ⟨n, hn⟩
  obtain ⟨h3, h4⟩ := Array.getElem?_eq_some_iff.1 h2
  exact h4
theorem u8_back (c : UInt8) : ((c.toNat : Int).toNat.toUInt8) = c := by
  rw [Int.toNat_natCast]; exact UInt8.ofNat_toNat
set_option maxHeartbeats 4000000 in
theorem quote_any (s : ByteArray) (hs : s.size ≤ 256) (w : World) :
    Calls Tryz.prog 15 #[.string s] w fun e w' => e = .returned (.string ⟨(quo s.data.toList).toArray⟩) ∧ Below w.heap.size w w' := by
  have hsl : s.data.toList.length = s.size := by rw [Array.length_toList]; rfl
  go_enter Tryz.func15, Tryz.ntmps15
  go_wp2
  go_loopw [8] (fun i wr => ∃ k : Nat, k ≤ s.size ∧ i = .int .i64 (k : Int) ∧ Hid (IsBuilder 91 5 w.heap.size w.heap.size (byteCells (quo (s.data.toList.take k))) wr ∧ Below w.heap.size w wr)) (fun i _ => s.size - (RowKit.intOf i).toNat)
  case atStart => exact ⟨0, Nat.zero_le _, rfl, fresh_isBuilder 91 5 w, (Below.refl _ w).alloc (Nat.le_refl _) _⟩
  case round =>
    obtain ⟨k, hk, rfl, hR⟩ := hrel
    by_cases hlt : k < s.size
    · have i1 : (k : Int) < (s.size : Int) := by omega
      have hget : s.data.toList[k]? = some (s[k]'hlt) := by
        rw [List.getElem?_eq_getElem (by omega)]
        rfl
      have htk : Hid (s.data.toList.take (k + 1) = s.data.toList.take k ++ [s[k]'hlt]) := by
        show _ = _
        rw [List.take_add_one, hget]; rfl
      have hbs := hR.out.2.size
      have hq : Hid ((quo (s.data.toList.take k)).length ≤ 1024) := by
        have := quo_len (s.data.toList.take k)
        rw [List.length_take] at this
        exact (by omega : (quo (s.data.toList.take k)).length ≤ 1024)
      replace hget := hide hget
      go_wp2_with fail
      generalize s[k]'hlt = c at *
      have hcl := u8_lt c
      by_cases hp : plB c = true
      · have hqc : Hid (quo (s.data.toList.take (k + 1)) = quo (s.data.toList.take k) ++ [c]) := by
          show _ = _
          rw [htk.out, quo_snoc]; simp [qc, hp]
        have WB := hide (fun w1 h1 h2 => wb_any w.heap.size w.heap.size (quo (s.data.toList.take k)) c w1 h1 (by have := hq.out; omega) h2)
        cases hL : isLet (c.toNat : Int) with
        | true =>
          refine (letter_any _ _).mono ?_
          rintro e w1 ⟨rfl, rfl⟩
          rw [hL]
          go_wp2_with fail
          refine (WB.out _ hR.out.1 hbs).mono ?_
          rintro e w1 ⟨rfl, h1, B1⟩
          have hR1 := hide (And.intro h1 (hR.out.2.trans B1))
          clear h1 B1
          go_wp2
          go_roundw
          case rel => exact ⟨k + 1, by omega, by go_num, by rw [hqc.out]; exact hR1.out⟩
          case measure => simp [RowKit.intOf]; omega
        | false =>
          refine (letter_any _ _).mono ?_
          rintro e w1 ⟨rfl, rfl⟩
          rw [hL]
          go_wp2_with fail
          cases hD : isDig (c.toNat : Int) with
          | true =>
            refine (digit_any _ _).mono ?_
            rintro e w1 ⟨rfl, rfl⟩
            rw [hD]
            go_wp2_with fail
            refine (WB.out _ hR.out.1 hbs).mono ?_
            rintro e w1 ⟨rfl, h1, B1⟩
            have hR1 := hide (And.intro h1 (hR.out.2.trans B1))
            clear h1 B1
            go_wp2
            go_roundw
            case rel => exact ⟨k + 1, by omega, by go_num, by rw [hqc.out]; exact hR1.out⟩
            case measure => simp [RowKit.intOf]; omega
          | false =>
            refine (digit_any _ _).mono ?_
            rintro e w1 ⟨rfl, rfl⟩
            rw [hD]
            have hX : (0 : Int) ≤ indexByte plS.data.toList ((c.toNat : Int).toNat.toUInt8) := by
              have h1 := contains_iff_indexByte plS.data.toList c
              have h2 : plS.data.toList.contains c = true := by simpa [plB, hL, hD] using hp
              rw [h2] at h1
              rw [u8_back]
              exact of_decide_eq_true h1.symm
            go_wp2_with fail
            refine (ix_any plS _ _).mono ?_
            rintro e w1 ⟨rfl, rfl⟩
            generalize indexByte plS.data.toList ((c.toNat : Int).toNat.toUInt8) = ii at *
            go_wp2_with fail
            refine (WB.out _ hR.out.1 hbs).mono ?_
            rintro e w1 ⟨rfl, h1, B1⟩
            have hR1 := hide (And.intro h1 (hR.out.2.trans B1))
            clear h1 B1
            go_wp2
            go_roundw
            case rel => exact ⟨k + 1, by omega, by go_num, by rw [hqc.out]; exact hR1.out⟩
            case measure => simp [RowKit.intOf]; omega
      · have hL : isLet (c.toNat : Int) = false := by cases h : isLet (c.toNat : Int) <;> simp_all [plB]
        have hD : isDig (c.toNat : Int) = false := by cases h : isDig (c.toNat : Int) <;> simp_all [plB]
        have hX : ¬ (0 : Int) ≤ indexByte plS.data.toList ((c.toNat : Int).toNat.toUInt8) := by
          have h1 := contains_iff_indexByte plS.data.toList c
          have h2 : plS.data.toList.contains c = false := by cases h : plS.data.toList.contains c <;> simp_all [plB]
          rw [h2] at h1
          rw [u8_back]
          exact of_decide_eq_false h1.symm
        have hqc : Hid (quo (s.data.toList.take (k + 1)) = ((quo (s.data.toList.take k) ++ [92, 120]) ++ [dg (c.toNat / 16)]) ++ [dg (c.toNat % 16)]) := by
          show _ = _
          rw [htk.out, quo_snoc]; simp [qc, hp]
        refine (letter_any _ _).mono ?_
        rintro e w1 ⟨rfl, rfl⟩
        rw [hL]
        go_wp2_with fail
        refine (digit_any _ _).mono ?_
        rintro e w1 ⟨rfl, rfl⟩
        rw [hD]
        go_wp2_with fail
        refine (ix_any plS _ _).mono ?_
        rintro e w1 ⟨rfl, rfl⟩
        generalize indexByte plS.data.toList ((c.toNat : Int).toNat.toUInt8) = ii at *
        go_wp2_with fail
        refine (ws_any w.heap.size w.heap.size (quo (s.data.toList.take k)) ⟨#[92, 120]⟩ w1 hR.out.1 (by have := hq.out; show _ + 2 ≤ _; omega) hbs).mono ?_
        rintro e w2 ⟨rfl, h1, B1⟩
        have hR1 := hide (And.intro h1 (hR.out.2.trans B1))
        clear h1 B1
        go_wp2_with fail
        rw [dig_at (show c.toNat / 16 < 16 by omega)]
        refine (wb_any w.heap.size w.heap.size _ (dg (c.toNat / 16)) w2 hR1.out.1 (by have := hq.out; simp; omega) hR1.out.2.size).mono ?_
        rintro e w3 ⟨rfl, h1, B1⟩
        have hR2 := hide (And.intro h1 (hR1.out.2.trans B1))
        clear h1 B1
        go_wp2_with fail
        rw [dig_at (show c.toNat % 16 < 16 by omega)]
        refine (wb_any w.heap.size w.heap.size _ (dg (c.toNat % 16)) w3 hR2.out.1 (by have := hq.out; simp; omega) hR2.out.2.size).mono ?_
        rintro e w4 ⟨rfl, h1, B1⟩
        have hR3 := hide (And.intro h1 (hR2.out.2.trans B1))
        clear h1 B1
        go_wp2
        go_roundw
        case rel => exact ⟨k + 1, by omega, by go_num, by rw [hqc.out]; exact hR3.out⟩
        case measure => simp [RowKit.intOf]; omega
    · have i1 : ¬ (k : Int) < (s.size : Int) := by omega
      have ST := hide (st_any w.heap.size w.heap.size (quo (s.data.toList.take k)) wr hR.out.1 hR.out.2.size)
      have hkk : Hid (s.data.toList.take k = s.data.toList) := List.take_of_length_le (by omega)
      go_wp2_with fail
      refine ST.out.mono ?_
      rintro e w1 ⟨rfl, B1⟩
      go_wp2
      go_ret
      exact ⟨by rw [hkk.out]; rfl, hR.out.2.trans B1⟩
end Go.Proofs.YtkfdikpnnkbgaaaGreatDoor.Q
namespace Go.Proofs.YtkfdikpnnkbgaaaGreatDoor.Q
open Go.RowKit
set_option maxRecDepth 100000
set_option linter.unusedVariables false
set_option linter.unusedSimpArgs false

/-- The set of one byte. -/
def sg (c : UInt8) : S4 := span c.toNat c.toNat
def lvs : List UInt8 → Fo
  | [] => .nil
  | c :: l => .cons ⟨1, sg c, 0, 0⟩ .nil (lvs l)
theorem lvs_snoc (c : UInt8) : ∀ l, lvs (l ++ [c]) = (lvs l).snoc (leaf (sg c))
  | [] => rfl
  | a :: l => by simp [lvs, Fo.snoc, lvs_snoc c l]
theorem lvs_len : ∀ l, (lvs l).len = l.length
  | [] => rfl
  | a :: l => by simp [lvs, Fo.len, lvs_len l]
theorem at_toList {s : ByteArray} {k : Nat} (h : k < s.size) : s.data.toList[k]? = some (s[k]'h) := by
  rw [List.getElem?_eq_getElem (show k < s.data.toList.length by rw [Array.length_toList]; exact h)]
  rfl
theorem bt_list (s : ByteArray) (k : Nat) : bt s k = ((s.data.toList.getD k 0).toNat : Int) := by
  unfold bt
  split
  · rename_i h
    rw [List.getD_eq_getElem?_getD, at_toList h]; rfl
  · rename_i h
    rw [List.getD_eq_getElem?_getD, List.getElem?_eq_none (by rw [Array.length_toList]; exact Nat.le_of_not_lt h)]; rfl
theorem bt_mid {s : ByteArray} {A B : List UInt8} (h : s.data.toList = A ++ B) (i : Nat) : bt s (A.length + i) = ((B.getD i 0).toNat : Int) := by
  rw [bt_list, h, List.getD_eq_getElem?_getD, List.getElem?_append_right (by omega), List.getD_eq_getElem?_getD, Nat.add_sub_cancel_left]
theorem all_bytes {p : UInt8 → Prop} (h : ∀ n : Fin 256, p (UInt8.ofNat n.1)) (c : UInt8) : p c := by
  have := h ⟨c.toNat, u8_lt c⟩
  rwa [show UInt8.ofNat c.toNat = c from UInt8.ofNat_toNat] at this
/-- What a byte is that stands for itself. -/
def okP (n : Nat) : Bool := decide (32 ≤ n) && decide (n ≤ 126) && !([124, 41, 40, 46, 91, 92, 123, 63, 43, 42].contains n) && !(bads.contains (n : Int))
theorem plain_ok (c : UInt8) (h : plB c = true) : okP c.toNat = true := by
  revert h
  exact all_bytes (p := fun c => plB c = true → okP c.toNat = true) (by decide +kernel) c
theorem okP_out {n : Nat} (h : okP n = true) : 32 ≤ n ∧ n ≤ 126 ∧ n ≠ 124 ∧ n ≠ 41 ∧ n ≠ 40 ∧ n ≠ 46 ∧ n ≠ 91 ∧ n ≠ 92 ∧ n ≠ 123 ∧ n ≠ 63 ∧ n ≠ 43 ∧ n ≠ 42 ∧ ¬ ((n : Int) ∈ bads) := by
  simp only [okP, Bool.and_eq_true, decide_eq_true_eq, Bool.not_eq_true', List.contains_eq_mem, decide_eq_false_iff_not] at h
  obtain ⟨⟨⟨h1, h2⟩, h3⟩, h4⟩ := h
  simp only [List.mem_cons, List.not_mem_nil, or_false, not_or] at h3
  exact ⟨h1, h2, h3.1, h3.2.1, h3.2.2.1, h3.2.2.2.1, h3.2.2.2.2.1, h3.2.2.2.2.2.1, h3.2.2.2.2.2.2.1, h3.2.2.2.2.2.2.2.1, h3.2.2.2.2.2.2.2.2.1, h3.2.2.2.2.2.2.2.2.2, h4⟩
theorem hx_dg : ∀ n : Fin 16, hx ((dg n.1).toNat : Int) = some (n.1 : Int) := by decide +kernel
theorem quo_cons (c : UInt8) (l : List UInt8) : quo (c :: l) = qc c ++ quo l := by simp [quo]
theorem quo_ge (l : List UInt8) : l.length ≤ (quo l).length := by
  induction l with
  | nil => simp [quo]
  | cons a l ih =>
    have h1 : 1 ≤ (qc a).length := by unfold qc; split <;> simp
    rw [quo_cons]; simp; omega
/-- The byte that comes next is no times. -/
theorem next_ok (l : List UInt8) : ((quo l).getD 0 0).toNat ≠ 123 ∧ ((quo l).getD 0 0).toNat ≠ 63 ∧ ((quo l).getD 0 0).toNat ≠ 43 ∧ ((quo l).getD 0 0).toNat ≠ 42 := by
  cases l with
  | nil => simp [quo]
  | cons c l =>
    rw [quo_cons]
    unfold qc
    split
    · rename_i h
      have := okP_out (plain_ok c h)
      simp only [List.cons_append, List.nil_append, List.getD_cons_zero]
      omega
    · simp
theorem times_none {s : ByteArray} {a : Nat} {n : Nat} (h : bt s a = (n : Int)) (h2 : n ≠ 123 ∧ n ≠ 63 ∧ n ≠ 43 ∧ n ≠ 42) : timesR s a = ((0, 0, 0), a, true) := by
  unfold timesR
  rw [h, if_neg (by omega), if_neg (by omega), if_neg (by omega), if_neg (by omega)]
theorem set_quo {s : ByteArray} {A l : List UInt8} {c : UInt8} (h : s.data.toList = A ++ (qc c ++ quo l)) :
    A.length < s.size ∧ bt s A.length ≠ 124 ∧ bt s A.length ≠ 41 ∧ bt s A.length ≠ 40 ∧ setR s A.length = (sg c, A.length + (qc c).length, true) := by
  have hsz : s.size = A.length + ((qc c).length + (quo l).length) := by
    have := congrArg List.length h
    rw [Array.length_toList] at this
    simpa using this
  have b := fun i => bt_mid h i
  by_cases hp : plB c = true
  · have hq : qc c = [c] := by simp [qc, hp]
    rw [hq] at b hsz
    rw [hq]
    have b0 := b 0
    simp only [List.cons_append, List.nil_append, List.getD_cons_zero, Nat.add_zero] at b0
    obtain ⟨h1, h2, h3, h4, h5, h6, h7, h8, h9, h10, h11, h12, h13⟩ := okP_out (plain_ok c hp)
    refine ⟨by simp at hsz; omega, by rw [b0]; omega, by rw [b0]; omega, by rw [b0]; omega, ?_⟩
    unfold setR plR
    rw [b0, if_neg (by omega), if_neg (by omega), if_neg (by omega), if_neg h13, if_neg (by omega)]
    rfl
  · have hq : qc c = [92, 120, dg (c.toNat / 16), dg (c.toNat % 16)] := by simp [qc, hp]
    rw [hq] at b hsz
    rw [hq]
    have b0 := b 0
    have b1 := b 1
    have b2 := b 2
    have b3 := b 3
    simp only [List.cons_append, List.nil_append, List.getD_cons_zero, List.getD_cons_succ, Nat.add_zero] at b0 b1 b2 b3
    have hc := u8_lt c
    have hh := hx_dg ⟨c.toNat / 16, by omega⟩
    have hl := hx_dg ⟨c.toNat % 16, by omega⟩
    simp only at hh hl
    have e0 : bt s A.length = 92 := b0
    have e1 : bt s (A.length + 1) = 120 := b1
    refine ⟨by simp at hsz; omega, by rw [e0]; omega, by rw [e0]; omega, by rw [e0]; omega, ?_⟩
    unfold setR escR hexR
    rw [e0, e1, if_neg (by omega), if_neg (by omega), if_pos rfl, if_pos rfl, b2, hh]
    simp only
    rw [show A.length + 2 + 1 = A.length + 3 from rfl, b3, hl]
    simp only
    have e : (((c.toNat / 16 : Nat) : Int) * 16 + ((c.toNat % 16 : Nat) : Int)).toNat = c.toNat := by omega
    rw [e]
    rfl
theorem seq_quo (br : Nat → Out) (q : ByteArray) : ∀ (l done : List UInt8) (n : Nat), q.data.toList = quo done ++ quo l → l.length < n → seqL br q n (lvs done) (quo done).length = .ok (lvs (done ++ l), q.size)
  | [], done, 0, _, hn => by simp at hn
  | [], done, n + 1, h, hn => by
    have hsz : q.size = (quo done).length := by
      have := congrArg List.length h
      rw [Array.length_toList] at this
      simpa [quo] using this
    unfold seqL
    rw [if_neg (by omega), List.append_nil, hsz]
  | c :: l, done, 0, _, hn => by simp at hn
  | c :: l, done, n + 1, h, hn => by
    rw [quo_cons] at h
    obtain ⟨h1, h2, h3, h4, h5⟩ := set_quo h
    have h' : q.data.toList = (quo done ++ qc c) ++ quo l := by rw [List.append_assoc]; exact h
    have hb := bt_mid h' 0
    rw [List.length_append, Nat.add_zero] at hb
    have ht := times_none hb (next_ok l)
    have ha : atomM br q (quo done).length = .ok (leaf (sg c), (quo done).length + (qc c).length) := by
      unfold atomM
      rw [if_neg h4, h5]
      simp
    have hp : pieceM br q (quo done).length = .ok (leaf (sg c), (quo done).length + (qc c).length) := by
      unfold pieceM
      rw [ha]
      simp only
      rw [ht]
      simp
    have ih := seq_quo br q l (done ++ [c]) n (by rw [quo_snoc]; exact h') (by simp at hn; omega)
    unfold seqL
    rw [if_pos ⟨h1, h2, h3⟩, hp]
    simp only
    rw [lvs_snoc, quo_snoc, List.length_append] at ih
    rw [ih, List.append_assoc]
    rfl
theorem tog_one (k : Int) (t : Tr) : tog k (Fo.nil.snoc t) = t := rfl
/-- A quoted text is read as its bytes. -/
theorem parse_quo (l : List UInt8) : parseM ⟨(quo l).toArray⟩ = .ok (tog 2 (lvs l)) := by
  obtain ⟨q, hq⟩ : ∃ q : ByteArray, q = ⟨(quo l).toArray⟩ := ⟨_, rfl⟩
  rw [← hq]
  have hd : q.data.toList = quo [] ++ quo l := by rw [hq]; simp [quo]
  have hsz : q.size = (quo l).length := by rw [hq]; simp [ByteArray.size]
  have hs := seq_quo (brM q 32) q l [] (q.size + 1) hd (by have := quo_ge l; omega)
  have hs2 : seqM (brM q 32) q 0 = .ok (tog 2 (lvs l), q.size) := by
    unfold seqM
    have : seqL (brM q 32) q (q.size + 1 - 0) .nil 0 = .ok (lvs l, q.size) := hs
    rw [this]
  have hb : bt q q.size = 0 := by unfold bt; rw [dif_neg (by omega)]
  have ha : altM (brM q 32) q 0 = .ok (tog 2 (lvs l), q.size) := by
    unfold altM
    rw [hs2]
    simp only
    rw [show q.size + 1 - q.size = 1 by omega]
    unfold altL
    rw [hb, if_neg (by omega)]
    simp only
    rw [tog_one]
  unfold parseM
  rw [ha]
  simp
theorem only_sg : ∀ c : UInt8, only (sg c) = some (c.toNat : Int) := all_bytes (by decide +kernel)
end Go.Proofs.YtkfdikpnnkbgaaaGreatDoor.Q
