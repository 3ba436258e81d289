/-
  SimQuotes, the mathematics: what the bytes of a text, one behind the other, mean; how great their program is. SimQuotes' walk: what Quote writes means the text and nothing else.
-/
import Derived.Test.YtkfdikpnnkbgaaaGreatDoorKQ
import Derived.Test.YtkfdikpnnkbgaaaGreatDoorSS
import Derived.Test.YtkfdikpnnkbgaaaGreatDoorSV
import Derived.Deep.RegionHeld3
namespace Go.Proofs.YtkfdikpnnkbgaaaGreatDoor
open Go.RowKit
set_option linter.unusedVariables false
set_option linter.unusedSimpArgs false

theorem sg_in : ∀ c b : Fin 256, inS (Q.sg (UInt8.ofNat c.1)) b.1 = decide (b.1 = c.1) := by decide +kernel
theorem sg_inS (c : UInt8) (b : Nat) (hb : b < 256) : inS (Q.sg c) b = decide (b = c.toNat) := by
  have h := sg_in ⟨c.toNat, UInt8.toNat_lt c⟩ ⟨b, hb⟩
  simpa using h
theorem sg_ok : ∀ c : Fin 256, 0 ≤ (Q.sg (UInt8.ofNat c.1)).a ∧ (Q.sg (UInt8.ofNat c.1)).a < 18446744073709551616 ∧ 0 ≤ (Q.sg (UInt8.ofNat c.1)).b ∧ (Q.sg (UInt8.ofNat c.1)).b < 18446744073709551616 ∧ 0 ≤ (Q.sg (UInt8.ofNat c.1)).c ∧ (Q.sg (UInt8.ofNat c.1)).c < 18446744073709551616 ∧ 0 ≤ (Q.sg (UInt8.ofNat c.1)).d ∧ (Q.sg (UInt8.ofNat c.1)).d < 18446744073709551616 := by decide +kernel
theorem sg_okS (c : UInt8) : OkS (Q.sg c) := fun k hk => by
  have h := sg_ok ⟨c.toNat, UInt8.toNat_lt c⟩
  simp only [UInt8.ofNat_toNat] at h
  rcases (show k = 0 ∨ k = 1 ∨ k = 2 ∨ k = 3 by omega) with rfl | rfl | rfl | rfl
  · exact ⟨h.1, h.2.1⟩
  · exact ⟨h.2.2.1, h.2.2.2.1⟩
  · exact ⟨h.2.2.2.2.1, h.2.2.2.2.2.1⟩
  · exact ⟨h.2.2.2.2.2.2.1, h.2.2.2.2.2.2.2⟩
theorem lvs_mes : ∀ l : List UInt8, (Q.lvs l).mes = l.map (fun c => byM (Q.sg c))
  | [] => rfl
  | c :: r => by simp [Q.lvs, Fo.mes, meN, lvs_mes r]
theorem sq_bytes : ∀ (l : List UInt8) (s : List Nat), (∀ b ∈ s, b < 256) → (sqM (l.map (fun c => byM (Q.sg c))) s ↔ s = l.map UInt8.toNat)
  | [], s, _ => by simp [sqM, eps]
  | c :: r, s, hs => by
    simp only [List.map_cons, sqM]
    constructor
    · rintro ⟨u, v, rfl, ⟨b, rfl, hb⟩, hv⟩
      have hb2 := sg_inS c b (hs b (by simp))
      rw [hb] at hb2
      have e : b = c.toNat := by simpa using hb2.symm
      rw [(sq_bytes r v (fun x hx => hs x (by simp at hx ⊢; exact .inr hx))).1 hv, e]
      rfl
    · rintro rfl
      refine ⟨[c.toNat], r.map UInt8.toNat, rfl, ⟨_, rfl, ?_⟩, (sq_bytes r _ (fun x hx => hs x (by simp at hx ⊢; exact .inr hx))).2 rfl⟩
      rw [sg_inS c _ (UInt8.toNat_lt c)]
      simp
theorem lvs_ok : ∀ l : List UInt8, okF (Q.lvs l)
  | [] => trivial
  | c :: r => ⟨sg_okS c, trivial, lvs_ok r⟩
theorem tog_lvs (l : List UInt8) : (∃ c, l = [c] ∧ tog 2 (Q.lvs l) = leaf (Q.sg c)) ∨ tog 2 (Q.lvs l) = (⟨2, noSet, 0, 0⟩, Q.lvs l) := by
  match l with
  | [] => exact .inr rfl
  | [c] => exact .inl ⟨c, rfl, rfl⟩
  | a :: b :: r => exact .inr rfl
theorem quo_means (l : List UInt8) (s : List Nat) (hs : ∀ b ∈ s, b < 256) : meT (tog 2 (Q.lvs l)) s ↔ s = l.map UInt8.toNat := by
  rcases tog_lvs l with ⟨c, rfl, e⟩ | e
  · rw [e]
    show meN (leaf (Q.sg c)).1 _ s ↔ _
    have h := sq_bytes [c] s hs
    rw [← h]
    show byM (Q.sg c) s ↔ cat (byM (Q.sg c)) eps s
    exact (cat_eps _ s).symm
  · rw [e]
    show meN ⟨2, noSet, 0, 0⟩ (Q.lvs l).mes s ↔ _
    rw [lvs_mes, ← sq_bytes l s hs]
    rfl
theorem quo_okT (l : List UInt8) : okT (tog 2 (Q.lvs l)) := by
  rcases tog_lvs l with ⟨c, rfl, e⟩ | e
  · rw [e]; exact ⟨sg_okS c, trivial⟩
  · rw [e]; exact ⟨noSet_ok, lvs_ok l⟩
theorem lvs_sum : ∀ l : List UInt8, sumN (Q.lvs l).cds = l.length
  | [] => rfl
  | c :: r => by
    show (cdN ⟨1, Q.sg c, 0, 0⟩ _).n + sumN (Q.lvs r).cds = _
    rw [lvs_sum r]
    simp [cdN, sgl]
    omega
theorem quo_prg (l : List UInt8) (hl : l.length ≤ 60) : (prg (tog 2 (Q.lvs l))).n ≤ 2048 := by
  have h2 : (cdT (tog 2 (Q.lvs l))).n ≤ 61 := by
    rcases tog_lvs l with ⟨c, rfl, e⟩ | e
    · rw [e]
      show max 1 1 + 0 ≤ 61
      omega
    · rw [e]
      show (sqn (Q.lvs l).cds).n ≤ 61
      show max 1 (sumN (Q.lvs l).cds) ≤ 61
      rw [lvs_sum]
      omega
  show max 1 (sumN [cdT (tog 2 (Q.lvs l)), endC]) ≤ 2048
  have : sumN [cdT (tog 2 (Q.lvs l)), endC] = (cdT (tog 2 (Q.lvs l))).n + 1 := by simp [sumN, endC]
  rw [this]
  omega
theorem bys_lt (s : ByteArray) : ∀ b ∈ bys s, b < 256 := fun b hb => by
  unfold bys at hb
  obtain ⟨k, hk, rfl⟩ := List.mem_map.1 hb
  rw [Q.bt_list]
  have := UInt8.toNat_lt (s.data.toList.getD k 0)
  omega
theorem bys_eq (s : ByteArray) : bys s = s.data.toList.map UInt8.toNat := by
  apply List.ext_getElem
  · show (List.map _ (List.range s.size)).length = (List.map _ _).length
    rw [List.length_map, List.length_range, List.length_map, Array.length_toList]; rfl
  · intro i h1 h2
    simp only [bys, List.getElem_map, List.getElem_range]
    rw [Q.bt_list]
    have : i < s.data.toList.length := by simpa using h2
    simp [List.getD, List.getElem?_eq_getElem this]
theorem quo_of {s t : ByteArray} : meT (tog 2 (Q.lvs s.data.toList)) (bys t) ↔ s = t := by
  rw [quo_means _ _ (bys_lt t), bys_eq]
  constructor
  · intro h
    have h2 : t.data.toList = s.data.toList := (List.map_inj_right (f := UInt8.toNat) (fun a b e => UInt8.toNat_inj.1 e)).1 h
    cases s; cases t
    simp only [ByteArray.mk.injEq]
    exact (Array.toList_inj.1 h2).symm
  · rintro rfl; rfl
end Go.Proofs.YtkfdikpnnkbgaaaGreatDoor
namespace Go.Proofs.YtkfdikpnnkbgaaaGreatDoor
open Go.RowKit
set_option linter.unusedVariables false
set_option linter.unusedSimpArgs false

section
variable {w : World} {ops : Array Oper} {rest : List Oper} {o : Oper} {a : Act} {Q : Exit → Act → World → Prop} {K : Act → World → Prop} {E : Prop}
theorem step_min (hgd : o.guard = none) (x y : Operand) (ho : o.op = .call { callee := .builtin .min, args := #[x, y], argTypes := #[3, 3] }) (n c m : Nat) (hx : a.eval x = .int .i64 (n : Int)) (hy : a.eval y = .int .i64 (c : Int)) (hm : min n c = m)
    (h : K (a.put o.dst (.int .i64 (m : Int))) w) :
    if Region.wanted o (yielded ops a.tmps) = true then Oper.wp Tryz.prog o a w K Q else E := by
  have hw : Region.wanted o (yielded ops a.tmps) = true := by simp [Region.wanted, hgd]
  rw [if_pos hw]
  have e : (if c < n then (c : Int) else (n : Int)) = (m : Int) := by split <;> omega
  unfold Oper.wp
  simp [execOp, ho, resolve, invoke, builtin, hx, hy, run_min_int2, Result.andThen]
  rw [e, Oper.upon_value]
  exact h
end
theorem quo_le (l : List UInt8) : (Q.quo l).length ≤ 4 * l.length := by
  induction l with
  | nil => simp [Q.quo]
  | cons c r ih =>
    rw [Q.quo_cons, List.length_append, List.length_cons]
    have : (Q.qc c).length ≤ 4 := by unfold Q.qc; split <;> simp
    omega
theorem toList_ne {a b : ByteArray} (h : ¬ a = b) : ¬ a.toList = b.toList := by
  rw [ByteArray.toList_eq, ByteArray.toList_eq]
  intro e
  apply h
  cases a; cases b
  simp only [ByteArray.mk.injEq]
  exact Array.toList_inj.1 e
theorem drew_bel (w : World) : Below w.heap.size w w.drew := (Below.refl _ w).drew
theorem full_quo (a b : ByteArray) (ha : a.size ≤ 60) (hb : b.size ≤ 65536) (w : World) (hT : Tab w) :
    Calls Tryz.prog 14 #[.string ⟨(Q.quo a.data.toList).toArray⟩, .string b] w fun e w' => Below w.heap.size w w' ∧ e = .returned (.tuple #[.bool (decide (a = b)), .int .i64 0, .int .i64 0]) := by
  have hl : a.data.toList.length = a.size := by rw [Array.length_toList]; rfl
  have h1 := quo_le a.data.toList
  refine (full_ok ⟨(Q.quo a.data.toList).toArray⟩ b _ (Q.parse_quo _) (by show (Q.quo a.data.toList).toArray.size ≤ 256; rw [List.size_toArray]; omega) (quo_okT _) (quo_prg _ (by omega)) hb w hT).mono ?_
  rintro e w' ⟨B, x, rfl, hx⟩
  refine ⟨B, ?_⟩
  have : x = decide (a = b) := by
    rw [quo_of] at hx
    by_cases h : a = b
    · rw [decide_eq_true h]; exact hx.2 h
    · rw [decide_eq_false h]
      cases x with
      | true => exact absurd (hx.1 rfl) h
      | false => rfl
  rw [this]
set_option maxRecDepth 100000 in
set_option maxHeartbeats 4000000 in
theorem quotesW (a0 a1 : ByteArray) (w : World) (hT : Tab w) (w0 : a0.size ≤ maxLen) (w1 : a1.size ≤ maxLen) :
    Calls Tryz.prog 4 #[.string a0, .string a1] w fun e w' => e = .returned (.bool true) ∧ Below w.heap.size w w' := by
  obtain ⟨m0, hm0⟩ : ∃ m, min a0.size 60 = m := ⟨_, rfl⟩
  obtain ⟨m1, hm1⟩ : ∃ m, min a1.size 60 = m := ⟨_, rfl⟩
  have j0 : (m0 : Int) ≤ (a0.size : Int) := by omega
  have j1 : (m1 : Int) ≤ (a1.size : Int) := by omega
  have j2 : m0 ≤ a0.size := by omega
  have j3 : m1 ≤ a1.size := by omega
  have j4 : m0 ≤ 60 := by omega
  have j5 : m1 ≤ 60 := by omega
  replace hm0 := hide hm0
  replace hm1 := hide hm1
  clear w0 w1
  replace hT := hide hT
  go_enter Tryz.func4, Tryz.ntmps4
  go_wp2_with fail
  refine (works_any _ hT.out).mono ?_
  rintro e W1 ⟨rfl, B1⟩
  have T1 := hide (hT.out.below B1)
  replace B1 := hide B1
  clear hT
  go_wp2_with fail
  go_region_held3 (fun _ => True) (first | trivial) (first
    | (refine step_min rfl (.tmp 15) (.const (.int .i64 60)) rfl a0.size 60 m0 rfl rfl hm0.out ?_)
    | (refine step_min rfl (.tmp 20) (.const (.int .i64 60)) rfl a1.size 60 m1 rfl rfl hm1.out ?_))
  all_goals exact (by
    have Bd := hide (B1.out.trans ((drew_bel W1).mono B1.out.size))
    have Td := hide (T1.out.below (drew_bel W1))
    have s0 : (ByteArray.extract a0 0 m0).size ≤ 60 := by rw [ByteArray.size_extract]; omega
    have s1 : (ByteArray.extract a1 0 m1).size ≤ 60 := by rw [ByteArray.size_extract]; omega
    generalize ByteArray.extract a0 0 m0 = p at *
    generalize ByteArray.extract a1 0 m1 = q at *
    obtain ⟨W2, hW2⟩ : ∃ W2, W1.drew = W2 := ⟨_, rfl⟩
    rw [hW2] at Bd Td ⊢
    clear hW2 T1 B1 hm0 hm1 j0 j1 j2 j3
    go_wp2_with fail
    refine (Q.quote_any p (by omega) W2).mono ?_
    rintro e W3 ⟨rfl, b3⟩
    have B3 := hide (Bd.out.trans (b3.mono Bd.out.size))
    have T3 := hide (Td.out.below b3)
    clear b3 Td Bd
    go_wp2_with fail
    refine (full_quo p q s0 (by omega) W3 T3.out).mono ?_
    rintro e W4 ⟨b4, rfl⟩
    have B4 := hide (B3.out.trans (b4.mono B3.out.size))
    have T4 := hide (T3.out.below b4)
    clear b4 T3 B3
    go_wp2_with fail
    refine (Q.quote_any p (by omega) W4).mono ?_
    rintro e W5 ⟨rfl, b5⟩
    have B5 := hide (B4.out.trans (b5.mono B4.out.size))
    have T5 := hide (T4.out.below b5)
    clear b5 T4 B4
    go_wp2_with fail
    refine (full_quo p p s0 (by omega) W5 T5.out).mono ?_
    rintro e W6 ⟨b6, rfl⟩
    have B6 := hide (B5.out.trans (b6.mono B5.out.size))
    clear b6 T5 B5
    by_cases hpq : p = q
    · have hd : decide (p = q) = true := decide_eq_true hpq
      rw [hd]
      rw [decide_eq_true (rfl : p = p)]
      go_wp2_with fail
      go_ret
      exact ⟨rfl, B6.out⟩
    · have hd : decide (p = q) = false := decide_eq_false hpq
      rw [hd]
      rw [decide_eq_true (rfl : p = p)]
      have hb : (p.toList == q.toList) = false := by
        rw [beq_eq_false_iff_ne]
        exact fun h => toList_ne hpq h
      go_wp2_with fail
      all_goals first
        | (exfalso; exact toList_ne hpq (by assumption))
        | (go_ret
           exact ⟨rfl, B6.out⟩))
end Go.Proofs.YtkfdikpnnkbgaaaGreatDoor
