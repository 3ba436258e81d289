/-
  The walk of Read: what it keeps.
-/
import Derived.Test.YtbaclihlckfndaaDoorS
import Derived.Test.YtbaclihlckfndaaDoorP
namespace Go.Proofs.YtbaclihlckfndaaDoor
open Go.RowKit Go.Shelf
set_option linter.unusedVariables false
attribute [local go_sem] Oper.semAt_some

theorem kp53_t {n₀ : Nat} {A B C : World} (h : Kp53 n₀ A B) (k : Kp53 n₀ B C) : Kp53 n₀ A C := ⟨h.1.trans k.1, fun i cs fr hi => k.2 _ _ _ (h.2 _ _ _ hi)⟩
theorem kp53_b {n₀ : Nat} {w : World} (hn : n₀ ≤ w.heap.size) (W : World) (l : Nat) (o o' : Obj) (hl : w.heap.size ≤ l) (h : W.heap[l]? = some o) (hc : o.isCells = false) (hw : o.isWalk = false) : Kp53 n₀ W (W.putObj l o') :=
  ⟨belowK_b hn W l o o' hl h hc hw, fun k cs fr hk => ((grownBy_putObj' W l o').block k (Array.getElem?_eq_some_iff.1 hk).1 (fun e => by cases e; rw [h] at hk; cases hk; cases hc)).trans hk⟩
theorem kp53_grown {n₀ : Nat} {W W' : World} {row : Option Nat} (hg : W.grownBy W' row) (hn : n₀ ≤ W.heap.size) (h : ∀ k, row = some k → n₀ ≤ k ∧ ∀ cs fr, W.heap[k]? ≠ some (Obj.cells cs 53 fr)) : Kp53 n₀ W W' :=
  ⟨(Below.refl n₀ W).grown hg hn (fun k e => (h k e).1), fun k cs fr hk => (hg.block k (Array.getElem?_eq_some_iff.1 hk).1 (fun e => (h k e.symm).2 cs fr hk)).trans hk⟩

/-- The values vs are the records, in rows of their own, in blocks below bo. -/
structure RecsIn (W : World) (n₀ bo : Nat) (vs : List Value) (recs : List (List Int)) : Prop where
  len : vs.length = recs.length
  rows : ∀ i, i < recs.length → W.ownsRow n₀ 5 1 (vs.getD i undef) (recs.getD i []).length ((recs.getD i []).map (Value.int .u8)) ∧ ∀ k, (vs.getD i undef).ownBlock = some k → k < bo
theorem RecsIn.kept {W W' : World} {n₀ bo : Nat} {vs : List Value} {recs : List (List Int)} {row : Option Nat} (h : RecsIn W n₀ bo vs recs) (hg : W.grownBy W' row) (hr : ∀ k, row = some k → bo ≤ k ∨ ∀ cs fr, W.heap[k]? ≠ some (Obj.cells cs 5 fr)) : RecsIn W' n₀ bo vs recs := by
  refine ⟨h.len, fun i hi => ?_⟩
  obtain ⟨h1, h2⟩ := h.rows i hi
  refine ⟨h1.kept hg ?_, h2⟩
  by_cases hn : (vs.getD i undef).ownBlock = none
  · exact .inl hn
  · refine .inr fun e => ?_
    rcases h1.2 with ⟨hv, _⟩ | ⟨g, cap, cur, hv, hbg, hgg, _⟩
    · rw [hv] at hn; exact hn rfl
    · have hb : (vs.getD i undef).ownBlock = some g := by rw [hv]; rfl
      rw [hb] at e
      rcases hr g e.symm with h3 | h3
      · have := h2 g hb; omega
      · exact h3 _ _ hgg
theorem RecsIn.mono {W : World} {n₀ bo bo' : Nat} {vs : List Value} {recs : List (List Int)} (h : RecsIn W n₀ bo vs recs) (hb : bo ≤ bo') : RecsIn W n₀ bo' vs recs :=
  ⟨h.len, fun i hi => ⟨(h.rows i hi).1, fun k e => Nat.lt_of_lt_of_le ((h.rows i hi).2 k e) hb⟩⟩
theorem RecsIn.snoc {W : World} {n₀ bo : Nat} {vs : List Value} {recs : List (List Int)} (h : RecsIn W n₀ bo vs recs) {v : Value} {x : List Int} (hv : W.ownsRow n₀ 5 1 v x.length (x.map (Value.int .u8))) (hk : ∀ k, v.ownBlock = some k → k < bo) : RecsIn W n₀ bo (vs ++ [v]) (recs ++ [x]) := by
  refine ⟨by simp [h.len], fun i hi => ?_⟩
  have hl := h.len
  by_cases hi' : i < recs.length
  · have e1 : (vs ++ [v]).getD i undef = vs.getD i undef := by simp [List.getD, List.getElem?_append_left (show i < vs.length by omega)]
    have e2 : (recs ++ [x]).getD i [] = recs.getD i [] := by simp [List.getD, List.getElem?_append_left hi']
    rw [e1, e2]; exact h.rows i hi'
  · obtain rfl : i = recs.length := by simp at hi; omega
    have e1 : (vs ++ [v]).getD recs.length undef = v := by rw [← hl]; simp [List.getD]
    have e2 : (recs ++ [x]).getD recs.length [] = x := by simp [List.getD]
    rw [e1, e2]; exact ⟨hv, hk⟩
/-- The slice of the records, in memory. -/
theorem hasL_of_recs {W : World} {n₀ n₁ bo : Nat} {v : Value} {vs : List Value} {recs : List (List Int)} (hv : W.ownsRow n₁ 24 1 v recs.length vs) (h : RecsIn W n₀ bo vs recs) (hb : ∀ x ∈ recs, Byts x) : ∃ a cap, v = .slice a recs.length cap ∧ HasL W a recs.length cap recs := by
  rcases hv.2 with ⟨rfl, h0⟩ | ⟨g, cap, cur, rfl, hbg, hg, hnc, hcm, hcs, htake⟩
  · obtain rfl : recs = [] := List.eq_nil_of_length_eq_zero h0
    exact ⟨none, 0, rfl, rfl, Nat.le_refl _, Nat.zero_le _, fun _ => rfl, fun hp => by simp at hp⟩
  · refine ⟨some ⟨g, 0, none⟩, cap, rfl, rfl, hnc, hcm, (fun e => by cases e), fun hp => ⟨g, 0, rfl, (Array.getElem?_eq_some_iff.1 hg).1, fun i hi => ?_⟩⟩
    have hl := h.len
    obtain ⟨h1, _⟩ := h.rows i hi
    have hby : Byts (recs.getD i []) := by
      have : recs.getD i [] = recs[i] := by simp [List.getD, List.getElem?_eq_getElem hi]
      rw [this]; exact hb _ (List.getElem_mem _)
    obtain ⟨ai, ci, e, hH⟩ := has_of_owns h1 hby
    refine ⟨ai, _, ci, ?_, hH⟩
    have := hv.cells (g := g) rfl i (vs.getD i undef) (by simp [List.getD, List.getElem?_eq_getElem (show i < vs.length by omega)])
    rw [add_plain] at this
    rw [this, e]
end Go.Proofs.YtbaclihlckfndaaDoor
