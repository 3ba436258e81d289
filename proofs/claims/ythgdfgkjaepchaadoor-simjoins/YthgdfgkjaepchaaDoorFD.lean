/-
  Instructions compared; Make of any pattern, with its error.
-/
import Derived.Test.YthgdfgkjaepchaaDoorED
import Derived.Test.YthgdfgkjaepchaaDoorEJ
import Derived.Laws.StructEq
namespace Go.Proofs.YthgdfgkjaepchaaDoor
open Go.RowKit Go.Shelf Go.Lib
set_option linter.unusedVariables false
set_option linter.unusedSimpArgs false

theorem eqS_rfl (s : S4) : eqS s s = true := by simp [eqS]
theorem fields45 : Tryd.prog.underlying 52 = some (.struct (Tryd.prog.fieldsOf 52)) := by kernel_rfl
theorem held45 : Tryd.prog.stoodInHeld 52 = false := by kernel_rfl
theorem flds45 : (Tryd.prog.fieldsOf 52).toList = [{ name := "Op", type := 3, offset := 0, embedded := false, tag := "", pkgPath := "", byteOffset := 0 }, { name := "Set", type := 24, offset := 1, embedded := false, tag := "", pkgPath := "", byteOffset := 8 }, { name := "X", type := 3, offset := 5, embedded := false, tag := "", pkgPath := "", byteOffset := 40 }, { name := "Y", type := 3, offset := 6, embedded := false, tag := "", pkgPath := "", byteOffset := 48 }] := by kernel_rfl
/-- An instruction is itself. -/
theorem run_neqI (p : Ins) (w : World) : (binOp .neq 52 (insV p) (insV p)).run Tryd.prog w = .ok (.bool false) w := by
  have e0 : ∀ w, (part 3 (insA p) 0).run Tryd.prog w = .ok (.int .i64 p.op) w := fun w => by kernel_rfl
  have e1 : ∀ w, (part 24 (insA p) 1).run Tryd.prog w = .ok (setV p.s) w := fun w => by kernel_rfl
  have e2 : ∀ w, (part 3 (insA p) 5).run Tryd.prog w = .ok (.int .i64 p.x) w := fun w => by kernel_rfl
  have e3 : ∀ w, (part 3 (insA p) 6).run Tryd.prog w = .ok (.int .i64 p.y) w := fun w => by kernel_rfl
  have i1 : ∀ (x : Int) w, (Op.equalIn 9999 3 (.int .i64 x) (.int .i64 x)).run Tryd.prog w = .ok true w := fun x w => by
    rw [run_equalIn_int w 9998 3 .i64 .i64 x x Tryd.underlying3]
    simp
  have i2 : ∀ w, (Op.equalIn 9999 24 (setV p.s) (setV p.s)).run Tryd.prog w = .ok true w := fun w => by
    have := run_eq24 p.s p.s 9997 w
    rw [eqS_rfl] at this
    exact this
  have h : (Op.equalIn 10000 52 (.agg (insA p)) (.agg (insA p))).run Tryd.prog w = .ok true w := by
    rw [run_equalIn_struct w 9999 52 (insA p) (insA p) fields45 held45, flds45]
    simp [Op.eqFields, e0, e1, e2, e3, i1, i2]
  unfold insV
  rw [run_neq_struct, h]
  rfl
/-- What Make answers. -/
noncomputable def mkE (t : Tr) : Int := by
  classical
  exact if fitT t then (if (prg t).n ≤ 2048 then 0 else 110) else 2
theorem mkE_no {t : Tr} (h : ¬ fitT t) : mkE t = 2 := by unfold mkE; rw [if_neg h]
theorem mkE_big {t : Tr} (h : fitT t) (h2 : 2048 < (prg t).n) : mkE t = 110 := by unfold mkE; rw [if_pos h, if_neg (by omega)]
theorem mkE_ok {t : Tr} (h : fitT t) (h2 : (prg t).n ≤ 2048) : mkE t = 0 := by unfold mkE; rw [if_pos h, if_pos h2]
theorem mkE_0 {t : Tr} (h : mkE t = 0) : fitT t ∧ (prg t).n ≤ 2048 := by
  by_cases hf : fitT t
  · by_cases hn : (prg t).n ≤ 2048
    · exact ⟨hf, hn⟩
    · rw [mkE_big hf (by omega)] at h; cases h
  · rw [mkE_no hf] at h; cases h
def MakeA (t : Tr) (w : World) (e : Ending) (w' : World) : Prop := Below w.heap.size w w' ∧ ∃ a n c, e = .returned (.tuple #[.slice a n c, .int .i64 (mkE t)]) ∧ (mkE t ≠ 0 → n = 0 ∧ a = none ∧ c = 0) ∧ (mkE t = 0 → n = ((prg t).put 0 0).length ∧ RI w' (.slice a n c) ((prg t).put 0 0) ∧ ∀ k, (Value.slice a n c).ownBlock = some k → w.heap.size ≤ k)
theorem make_all (t : Tr) (P : Nat → Prop) (x : Value) (w : World) (T : TrV w P x t) (hsz : szT t ≤ 4096) (hdp : dpT t ≤ 128) : Calls Tryd.prog 7 #[x] w (MakeA t w) := by
  by_cases hf : fitT t
  · refine (make_ok t P x w T hf hsz hdp).mono ?_
    rintro e w' ⟨B, ⟨hbig, rfl⟩ | ⟨hsm, v, rfl, R, o⟩⟩
    · refine ⟨B, none, 0, 0, ?_, fun _ => ⟨rfl, rfl, rfl⟩, fun h => ?_⟩
      · rw [mkE_big hf hbig]
      · rw [mkE_big hf hbig] at h; cases h
    · obtain ⟨a, c, rfl⟩ := R.val
      refine ⟨B, a, _, c, ?_, fun h => absurd (mkE_ok hf hsm) h, fun _ => ⟨rfl, R, o⟩⟩
      rw [mkE_ok hf hsm]
  · refine (make_no t P x w T hf hsz hdp).mono ?_
    rintro e w' ⟨rfl, B⟩
    refine ⟨B, none, 0, 0, ?_, fun _ => ⟨rfl, rfl, rfl⟩, fun h => ?_⟩
    · rw [mkE_no hf]
    · rw [mkE_no hf] at h; cases h
/-- Two patterns, one behind the other. -/
def both (t1 t2 : Tr) : Tr := (⟨2, noSet, 0, 0⟩, .cons t1.1 t1.2 (.cons t2.1 t2.2 .nil))
theorem both_fit (t1 t2 : Tr) : fitT (both t1 t2) ↔ fitT t1 ∧ fitT t2 := by
  constructor
  · rintro ⟨_, h1, h2, h3, h4, _⟩
    exact ⟨⟨h1, h2⟩, ⟨h3, h4⟩⟩
  · rintro ⟨⟨h1, h2⟩, ⟨h3, h4⟩⟩
    exact ⟨⟨fun _ => rfl, fun h => by simp [both] at h, fun _ => ⟨rfl, rfl⟩, .inr (.inl rfl)⟩, h1, h2, h3, h4, trivial⟩
theorem both_cd (t1 t2 : Tr) : cdT (both t1 t2) = sqn [cdT t1, cdT t2] := by
  show cdN ⟨2, noSet, 0, 0⟩ [cdN t1.1 t1.2.cds, cdN t2.1 t2.2.cds] = _
  unfold cdN
  simp [cdT, cdN]
theorem both_n (t1 t2 : Tr) : (prg (both t1 t2)).n + 1 = (prg t1).n + (prg t2).n := by
  have p1 := (cdT t1).pos
  have p2 := (cdT t2).pos
  rw [prg_n, prg_n, prg_n, both_cd]
  simp only [sqn, sumN]
  omega
theorem both_put (t1 t2 : Tr) : (prg (both t1 t2)).put 0 0 = (cdT t1).put 0 (cdT t1).n ++ ((cdT t2).put (cdT t1).n ((cdT t2).n + (cdT t1).n) ++ [⟨3, noSet, 0, 0⟩]) := by
  have p1 := (cdT t1).pos
  have p2 := (cdT t2).pos
  rw [prg_put, both_cd]
  simp only [sqn, sqP, sumN, Nat.zero_add, List.append_assoc]
  rw [show max 1 ((cdT t1).n + ((cdT t2).n + 0)) = (cdT t2).n + (cdT t1).n by omega]
theorem mkE_both {t1 t2 : Tr} (h : mkE (both t1 t2) = 0) : mkE t1 = 0 ∧ mkE t2 = 0 := by
  obtain ⟨h1, h2⟩ := mkE_0 h
  have hb := (both_fit t1 t2).1 h1
  have hn := both_n t1 t2
  have q1 := (prg t1).pos
  have q2 := (prg t2).pos
  exact ⟨mkE_ok hb.1 (by omega), mkE_ok hb.2 (by omega)⟩
/-- Each instruction of both is the first one's, or the second one's, moved. -/
theorem both_at {t1 t2 : Tr} (hf : fitT t2) {i : Nat} {z : Ins} (hi : ((prg (both t1 t2)).put 0 0)[i]? = some z) :
    (i < (cdT t1).n ∧ ((prg t1).put 0 0)[i]? = some z) ∨ ((cdT t1).n ≤ i ∧ ∃ y, ((prg t2).put 0 0)[i - (cdT t1).n]? = some y ∧ z = shI (cdT t1).n y) := by
  have l1 := (cdT t1).len 0 (cdT t1).n
  have l2 := (cdT t2).len 0 (cdT t2).n
  have l3 := (cdT t2).len (cdT t1).n ((cdT t2).n + (cdT t1).n)
  have hs := ((cdT_nice t2 hf).sh (cdT t1).n).2 0 (cdT t2).n
  rw [Nat.zero_add] at hs
  rw [both_put] at hi
  by_cases h1 : i < (cdT t1).n
  · left
    rw [List.getElem?_append_left (by omega)] at hi
    exact ⟨h1, by rw [prg_put, List.getElem?_append_left (by omega)]; exact hi⟩
  · right
    refine ⟨by omega, ?_⟩
    rw [List.getElem?_append_right (by omega), l1] at hi
    rw [prg_put]
    by_cases h2 : i - (cdT t1).n < (cdT t2).n
    · rw [List.getElem?_append_left (by omega), hs, List.getElem?_map] at hi
      rw [List.getElem?_append_left (by omega)]
      cases hy : ((cdT t2).put 0 (cdT t2).n)[i - (cdT t1).n]? with
      | none => rw [hy] at hi; cases hi
      | some y => rw [hy] at hi; cases hi; exact ⟨y, rfl, rfl⟩
    · rw [List.getElem?_append_right (by omega), l3] at hi
      rw [List.getElem?_append_right (by omega), l2]
      have h3 := (List.getElem?_eq_some_iff.1 hi).1
      have h4 : i - (cdT t1).n - (cdT t2).n = 0 := by simpa using h3
      rw [h4] at hi ⊢
      cases hi
      exact ⟨_, rfl, by simp [shI]⟩
end Go.Proofs.YthgdfgkjaepchaaDoor
