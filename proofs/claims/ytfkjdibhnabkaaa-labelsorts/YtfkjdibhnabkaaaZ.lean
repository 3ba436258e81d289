/-
  The mathematics of sorted labels: one order, one row; a set with a name turned.
-/
import Derived.Test.YtfkjdibhnabkaaaQ
import Derived.Sort.LotA
namespace Go.Proofs.Ytfkjdibhnabkaaa
open Go.RowKit Go.Shelf Go.Lib
set_option linter.unusedVariables false
set_option linter.unusedSimpArgs false

/-- Each name is ahead of all that follow. -/
def Asc (L : List Lab) : Prop := L.Pairwise (fun x y => s3 x.1 y.1 < 0)
/-- No name comes twice. -/
def Nub (L : List Lab) : Prop := L.Pairwise (fun x y => x.1 ≠ y.1)

theorem s3_trans {x y z : Str} (h1 : s3 x y < 0) (h2 : s3 y z < 0) : s3 x z < 0 := by
  have h := tw_s3.on x y z (by omega) (by omega)
  rcases Int.lt_or_eq_of_le h with h3 | h3
  · exact h3
  · have := (tw_s3.strict (x := x) (y := y) (z := z) (by omega) (by omega) h3).1
    omega
theorem s3_irr (x : Str) : s3 x x = 0 := (tw_s3.same x x).2 rfl
theorem s3_asym {x y : Str} (h1 : s3 x y < 0) (h2 : s3 y x < 0) : False := by
  have := tw_s3.turn x y
  omega
theorem asc_nub {L : List Lab} (h : Asc L) : Nub L := List.Pairwise.imp (fun {x y} hxy e => by rw [e, s3_irr] at hxy; omega) h
theorem asc_of_riseB : ∀ L : List Lab, riseB L = true → Asc L
  | [], _ => List.Pairwise.nil
  | [x], _ => List.pairwise_singleton _ _
  | x :: y :: L, h => by
    have h1 : s3 x.1 y.1 < 0 ∧ riseB (y :: L) = true := by
      unfold riseB at h ⊢
      simp only [List.tail_cons, List.zip_cons_cons, List.all_cons, Bool.and_eq_true, decide_eq_true_eq] at h
      exact h
    have ih := asc_of_riseB (y :: L) h1.2
    refine List.Pairwise.cons (fun z hz => ?_) ih
    rcases List.mem_cons.1 hz with rfl | hz
    · exact h1.1
    · exact s3_trans h1.1 ((List.pairwise_cons.1 ih).1 z hz)
theorem riseB_of_asc : ∀ L : List Lab, Asc L → riseB L = true
  | [], _ => rfl
  | [x], _ => rfl
  | x :: y :: L, h => by
    have h1 := List.pairwise_cons.1 h
    have ih := riseB_of_asc (y :: L) h1.2
    unfold riseB at ih ⊢
    simp only [List.tail_cons, List.zip_cons_cons, List.all_cons, Bool.and_eq_true, decide_eq_true_eq] at ih ⊢
    exact ⟨h1.1 y (by simp), ih⟩
/-- A row that rises is told by its labels alone. -/
theorem asc_unique : ∀ L M : List Lab, Asc L → Asc M → L.Perm M → L = M
  | [], M, _, _, h => (List.Perm.nil_eq h)
  | x :: L, M, hL, hM, h => by
    cases M with
    | nil => exact absurd h.length_eq (by simp)
    | cons y M =>
      have hx := List.pairwise_cons.1 hL
      have hy := List.pairwise_cons.1 hM
      have e : x = y := by
        have m1 : x ∈ y :: M := h.mem_iff.1 (by simp)
        have m2 : y ∈ x :: L := h.mem_iff.2 (by simp)
        rcases List.mem_cons.1 m1 with e | m1
        · exact e
        · rcases List.mem_cons.1 m2 with e | m2
          · exact e.symm
          · exact (s3_asym (hx.1 y m2) (hy.1 x m1)).elim
      subst e
      rw [asc_unique L M hx.2 hy.2 (List.Perm.cons_inv h)]

theorem swo_cmpN : Sort.SWO (ltOf cmpN) := by
  refine ⟨fun x => ?_, fun x y z h1 h2 => ?_, fun x y z h1 h2 => ?_⟩
  · simp [ltOf, cmpN, s3_irr]
  · exact decide_eq_true (s3_trans (of_decide_eq_true h1) (of_decide_eq_true h2))
  · have g1 : ¬ s3 x.1 y.1 < 0 := of_decide_eq_false h1
    have g2 : ¬ s3 y.1 z.1 < 0 := of_decide_eq_false h2
    refine decide_eq_false (show ¬ s3 x.1 z.1 < 0 from ?_)
    have t1 := tw_s3.turn x.1 y.1
    have t2 := tw_s3.turn y.1 z.1
    have t3 := tw_s3.turn x.1 z.1
    have := tw_s3.on z.1 y.1 x.1 (by omega) (by omega)
    omega
theorem nub_perm {L M : List Lab} (h : L.Perm M) (hn : Nub L) : Nub M := (List.Perm.pairwise_iff (fun h => Ne.symm h) h).1 hn
/-- What sorting makes of labels of different names. -/
theorem sort_asc (F : List Lab) (hn : Nub F) : ∃ R : List Lab, Sort.insertionSort (ltOf cmpN) F.toArray.reverse 0 F.length = R.toArray ∧ R.length = F.length ∧ R.Perm F ∧ Asc R := by
  obtain ⟨hp, hs⟩ := Sort.insertionSort_holds (lt := ltOf cmpN) swo_cmpN F.toArray.reverse 0 F.length (Nat.zero_le _) (by simp)
  generalize Sort.insertionSort (ltOf cmpN) F.toArray.reverse 0 F.length = d at *
  obtain ⟨h1, _, h3⟩ := hp
  have hsz : d.size = F.length := by rw [h1]; simp
  have e1 : d.extract 0 F.length = d := by rw [← hsz, Array.extract_size]
  have e2 : F.toArray.reverse.extract 0 F.length = F.toArray.reverse := by
    have : F.toArray.reverse.size = F.length := by simp
    rw [← this, Array.extract_size]
  rw [e1, e2] at h3
  have hperm : d.toList.Perm F := h3.trans (by simp)
  have hnub : Nub d.toList := nub_perm hperm.symm hn
  refine ⟨d.toList, by simp, by simpa using hsz, hperm, ?_⟩
  unfold Asc
  rw [List.pairwise_iff_getElem]
  intro i j hi hj hij
  have hn2 := (List.pairwise_iff_getElem.1 hnub) i j hi hj hij
  have hs2 := hs i j (Nat.zero_le _) hij (by rw [← hsz]; simpa using hj)
  have gi : d[i]! = d.toList[i] := by simp [Array.getElem!_eq_getD, Array.getD, (show i < d.size by simpa using hi)]
  have gj : d[j]! = d.toList[j] := by simp [Array.getElem!_eq_getD, Array.getD, (show j < d.size by simpa using hj)]
  rw [gi, gj] at hs2
  have hs3 : ¬ s3 d.toList[j].1 d.toList[i].1 < 0 := of_decide_eq_false hs2
  have t := tw_s3.turn d.toList[i].1 d.toList[j].1
  have ne : s3 d.toList[i].1 d.toList[j].1 ≠ 0 := fun e => hn2 ((tw_s3.same _ _).1 e)
  omega

/-- The labels but those of a name. -/
def offB (L : List Lab) (s : Str) : List Lab := L.filter fun x => !decide (x.1 = s)
theorem offB_mem {L : List Lab} {s : Str} {x : Lab} : x ∈ offB L s ↔ x ∈ L ∧ x.1 ≠ s := by simp [offB]
theorem offB_nub {L : List Lab} {s v : Str} (h : Nub L) : Nub (offB L s ++ [(s, v)]) := by
  unfold Nub
  rw [List.pairwise_append]
  refine ⟨h.filter _, List.pairwise_singleton _ _, fun a ha b hb => ?_⟩
  simp at hb
  subst hb
  exact (offB_mem.1 ha).2
theorem filB_nub {L : List Lab} (h : Nub L) : Nub (filB L) := h.filter _
theorem offB_len (L : List Lab) (s : Str) : (offB L s).length ≤ L.length := List.length_filter_le _ _
/-- All values are there. -/
def Full (L : List Lab) : Prop := ∀ x ∈ L, x.2 ≠ ByteArray.empty
theorem filB_full {L : List Lab} (h : Full L) : filB L = L := List.filter_eq_self.2 (fun x hx => by simpa using h x hx)
theorem filB_app (L M : List Lab) : filB (L ++ M) = filB L ++ filB M := List.filter_append ..
/-- What With sorts. -/
def wthF (L : List Lab) (s v : Str) : List Lab := filB (offB L s ++ [(s, v)])
theorem wthF_of {L : List Lab} (s v : Str) (h : Full L) : wthF L s v = offB L s ++ filB [(s, v)] := by
  unfold wthF
  rw [filB_app, filB_full (fun x hx => h x (offB_mem.1 hx).1)]
theorem filB_one (s v : Str) : filB [(s, v)] = if v = ByteArray.empty then [] else [(s, v)] := by
  unfold filB
  by_cases h : v = ByteArray.empty <;> simp [h]
theorem chkB_asc {L : List Lab} (h : chkB L = true) : Asc L := by
  unfold chkB at h
  simp only [Bool.and_eq_true] at h
  exact asc_of_riseB L h.1.2
theorem chkB_len {L : List Lab} (h : chkB L = true) : 0 < L.length ∧ L.length ≤ 16 := by
  unfold chkB at h
  simp only [Bool.and_eq_true, decide_eq_true_eq] at h
  exact ⟨h.1.1.1, h.1.1.2⟩
theorem chkB_full {L : List Lab} (h : chkB L = true) : Full L := by
  unfold chkB at h
  simp only [Bool.and_eq_true, List.all_eq_true] at h
  intro x hx e
  have := (h.2 x hx).2
  rw [e] at this
  revert this
  decide
theorem offB_off {L : List Lab} {s : Str} (h : ∀ x ∈ L, x.1 ≠ s) : offB L s = L := List.filter_eq_self.2 (fun x hx => by simpa using h x hx)
theorem offB_one (s v : Str) : offB (filB [(s, v)]) s = [] := by
  rw [filB_one]
  split <;> simp [offB]
theorem offB_app (L M : List Lab) (s : Str) : offB (L ++ M) s = offB L s ++ offB M s := List.filter_append ..
theorem getB_none : ∀ (L : List Lab) (s : Str), (∀ x ∈ L, x.1 ≠ s) → getB L s = ByteArray.empty
  | [], _, _ => rfl
  | x :: L, s, h => by
    unfold getB
    rw [if_neg (h x (by simp))]
    exact getB_none L s (fun y hy => h y (by simp [hy]))
theorem getB_some : ∀ (L : List Lab) (s v : Str), Nub L → (s, v) ∈ L → getB L s = v
  | [], _, _, _, h => by simp at h
  | x :: L, s, v, hn, h => by
    have hx := List.pairwise_cons.1 hn
    unfold getB
    rcases List.mem_cons.1 h with rfl | h
    · simp
    · have : x.1 ≠ s := hx.1 (s, v) h
      rw [if_neg this]
      exact getB_some L s v hx.2 h
/-- A set is what is left without a name, and that name with its value. -/
theorem off_back : ∀ (L : List Lab) (s : Str), Nub L → Full L → (offB L s ++ filB [(s, getB L s)]).Perm L
  | [], s, _, _ => by simp [offB, getB, filB]
  | x :: L, s, hn, hf => by
    have hx := List.pairwise_cons.1 hn
    have hf2 : Full L := fun y hy => hf y (by simp [hy])
    unfold getB
    by_cases h : x.1 = s
    · rw [if_pos h]
      have e1 : offB (x :: L) s = L := by
        have : offB (x :: L) s = offB L s := by simp [offB, h]
        rw [this]
        exact offB_off (fun y hy => by rw [← h]; exact (hx.1 y hy).symm)
      rw [e1, filB_one, if_neg (hf x (by simp)), show (s, x.2) = x by rw [← h]]
      exact List.perm_append_singleton x L
    · rw [if_neg h]
      have e1 : offB (x :: L) s = x :: offB L s := by simp [offB, h]
      rw [e1]
      exact List.Perm.cons x (off_back L s hx.2 hf2)

/-- With a value, and then with the elder one: as it was. -/
theorem undone_list {L R R2 : List Lab} {s v : Str} (hL : chkB L = true) (hR : R.Perm (wthF L s v)) (aR : Asc R) (cR : chkB R = true) (h2 : R2.Perm (wthF R s (getB L s))) (a2 : Asc R2) : R2 = L := by
  have fL := chkB_full hL
  have aL := chkB_asc hL
  rw [wthF_of s v fL] at hR
  rw [wthF_of s _ (chkB_full cR)] at h2
  have e1 : (offB R s).Perm (offB L s) := by
    have h3 : (offB R s).Perm (offB (offB L s ++ filB [(s, v)]) s) := hR.filter _
    rw [offB_app, offB_one, List.append_nil] at h3
    have e : offB (offB L s) s = offB L s := offB_off (fun x hx => (offB_mem.1 hx).2)
    rwa [e] at h3
  have h4 : R2.Perm L := h2.trans ((e1.append_right _).trans (off_back L s (asc_nub aL) fL))
  exact asc_unique R2 L a2 aL h4
theorem undone_get {L R : List Lab} {s v : Str} (hL : chkB L = true) (hR : R.Perm (wthF L s v)) (aR : Asc R) : getB R s = v := by
  rw [wthF_of s v (chkB_full hL), filB_one] at hR
  by_cases h : v = ByteArray.empty
  · rw [if_pos h, List.append_nil] at hR
    rw [h]
    exact getB_none R s (fun x hx => (offB_mem.1 (hR.mem_iff.1 hx)).2)
  · rw [if_neg h] at hR
    exact getB_some R s v (asc_nub aR) (hR.mem_iff.2 (by simp))
end Go.Proofs.Ytfkjdibhnabkaaa
