/-
  Sectors of which one is missing, or cut: the records that end ahead of it. Rows of slices that came from elsewhere.
-/
import Derived.Test.YtbaclihlckfndaaDoorY
namespace Go.Proofs.YtbaclihlckfndaaDoor
open Go.RowKit Go.Shelf
set_option linter.unusedVariables false

/-- How many records end within the first k sectors. -/
def frontN (k : Nat) : List (List Int) → Nat
  | [] => 0
  | x :: ls => if needR x ≤ k then frontN (k - needR x) ls + 1 else 0
theorem front_once {ls : List (List Int)} : ∀ {k j : Nat}, j ≤ ls.length → needL (ls.take j) ≤ k → (j < ls.length → k < needL (ls.take (j + 1))) → j = frontN k ls := by
  induction ls with
  | nil => intro k j h _ _; simp at h; simp [frontN, h]
  | cons x ls ih =>
    intro k j h1 h2 h3
    cases j with
    | zero =>
      have := h3 (by simp)
      simp [needL] at this
      simp [frontN]
      omega
    | succ j =>
      simp only [List.take_succ_cons, needL, List.length_cons] at h1 h2 h3
      have h4 : needR x ≤ k := by omega
      simp only [frontN, if_pos h4]
      rw [← ih (k := k - needR x) (j := j) (by omega) (by omega) (fun hj => by have := h3 (by omega); omega)]
theorem run_part (n : Nat) : ∀ (nx fl : Nat) (x : List Int) (s : St) (k : Nat), x.length ≤ n → fl ≤ 1 → k < (cutR nx fl x).length → (s.run ((cutR nx fl x).take k)).recs = s.recs ∧ (s.run ((cutR nx fl x).take k)).good = s.good := by
  induction n using Nat.strongRecOn with
  | ind n ih =>
    intro nx fl x s k hx hf hk
    cases k with
    | zero => exact ⟨rfl, rfl⟩
    | succ k =>
      by_cases h : 244 < x.length
      · rw [cutR_long h] at hk ⊢
        simp only [List.length_cons] at hk
        have e : s.step ⟨nx, x.take 244, fl⟩ = ⟨s.recs, s.cur ++ x.take 244, s.seen + 1, s.good⟩ := by unfold St.step; rw [if_neg (by show ¬ 2 ≤ fl; omega)]
        rw [List.take_succ_cons]
        show ((s.step _).run _).recs = _ ∧ ((s.step _).run _).good = _
        rw [e]
        exact ih (x.length - 244) (by omega) _ _ _ _ _ (by simp) (by omega) (by omega)
      · rw [cutR_short (by omega)] at hk
        simp at hk
theorem run_fronts (ls : List (List Int)) : ∀ (nx : Nat) (s : St) (k : Nat), s.cur = [] → s.good = s.seen → (s.run ((cutAll nx ls).take k)).recs = s.recs ++ ls.take (frontN k ls) ∧ (s.run ((cutAll nx ls).take k)).good = s.seen + needL (ls.take (frontN k ls)) := by
  induction ls with
  | nil => intro nx s k h1 h2; simp [cutAll, St.run, frontN, needL, h2]
  | cons x ls ih =>
    intro nx s k h1 h2
    have hl := cutR_len x.length nx 1 x (Nat.le_refl _)
    simp only [cutAll]
    by_cases h : needR x ≤ k
    · rw [List.take_append, List.take_of_length_le (by omega), run_app, run_cutR x.length _ _ _ _ (Nat.le_refl _) (by omega)]
      have := ih (nx + (cutR nx 1 x).length) ⟨s.recs ++ [s.cur ++ x], [], s.seen + (cutR nx 1 x).length, s.seen + (cutR nx 1 x).length⟩ (k - (cutR nx 1 x).length) rfl rfl
      rw [this.1, this.2, hl]
      simp only [frontN, if_pos h, List.take_succ_cons, needL, h1, List.nil_append, List.append_assoc, List.cons_append]
      exact ⟨trivial, by omega⟩
    · rw [List.take_append_of_le_length (by omega)]
      have := run_part x.length nx 1 x s k (Nat.le_refl _) (by omega) (by omega)
      simp only [frontN, if_neg h, List.take_zero, List.append_nil, needL, this.1, this.2, h2]
      simp
theorem chain_take {ps : List Says} : ∀ {nx : Nat} {op : Bool} (k : Nat), Chain nx op ps → Chain nx op (ps.take k) := by
  induction ps with
  | nil => intro nx op k h; simpa using h
  | cons p ps ih =>
    intro nx op k h
    cases k with
    | zero => trivial
    | succ k => exact ⟨h.1, h.2.1, h.2.2.1, ih k h.2.2.2⟩
theorem chain_drop {ps : List Says} : ∀ {nx : Nat} {op : Bool} (k : Nat) {p : Says} {qs : List Says}, Chain nx op ps → ps.drop k = p :: qs → p.Ok ∧ p.number = nx + k := by
  induction ps with
  | nil => intro nx op k p qs _ h; simp at h
  | cons q ps ih =>
    intro nx op k p qs h hd
    cases k with
    | zero => simp at hd; obtain ⟨rfl, rfl⟩ := hd; exact ⟨h.1, h.2.1⟩
    | succ k =>
      have := ih (nx := nx + 1) k h.2.2.2 (by simpa using hd)
      exact ⟨this.1, by omega⟩
theorem secs_app (ps qs : List Says) : secs (ps ++ qs) = secs ps ++ secs qs := by simp [secs]
theorem secs_take {ps : List Says} (h : ∀ p ∈ ps, p.Ok) (k : Nat) : (secs ps).take (256 * k) = secs (ps.take k) ∧ (secs ps).drop (256 * k) = secs (ps.drop k) := by
  have e : secs ps = secs (ps.take k) ++ secs (ps.drop k) := by rw [← secs_app, List.take_append_drop]
  have hl := secs_length (ps.take k) (fun p hp => (h p (List.mem_of_mem_take hp)).len)
  rw [List.length_take] at hl
  by_cases hk : k ≤ ps.length
  · rw [Nat.min_eq_left hk] at hl
    rw [e, ← hl]
    simp
  · have h2 := secs_length ps (fun p hp => (h p hp).len)
    rw [List.take_of_length_le (by omega), List.drop_of_length_le (by omega), List.take_of_length_le (by omega), List.drop_of_length_le (by omega)]
    exact ⟨rfl, rfl⟩
/-- One sector is missing. -/
theorem rights_missing {number : Nat} {ls : List (List Int)} (hb : ∀ x ∈ ls, Byts x) (hn : number + needL ls ≤ 4294967296) {k : Nat} (hk : k < needL ls) (r : List Int)
    (hr : r.length < 256 ∨ r = secs ((cutAll number ls).drop (k + 1))) : Rights number false (secs ((cutAll number ls).take k) ++ r) ((cutAll number ls).take k) := by
  have hc := (chain_cutAll ls number hb (by rw [cutAll_len]; exact hn)).1
  have hl := cutAll_len number ls
  refine rights_secs _ r _ _ (chain_take k hc) ?_
  rcases hr with hr | rfl
  · exact none_short hr
  · rintro ⟨q, hq⟩
    cases hd : (cutAll number ls).drop (k + 1) with
    | nil => rw [hd] at hq; exact none_short (by simp [secs]) ⟨q, hq⟩
    | cons p ps =>
      rw [hd] at hq
      obtain ⟨h1, h2⟩ := chain_drop (k + 1) hc hd
      have e : secs (p :: ps) = p.sec ++ secs ps := by simp [secs]
      rw [e] at hq
      have : q = p := (begins_cand hq.1).trans (begins_cand (begins_sec h1 (secs ps))).symm
      subst this
      have h3 := hq.2.1
      rw [List.length_take, hl, Nat.min_eq_left (by omega)] at h3
      omega
theorem read_missing (w : World) (number : Nat) (a : Option Addr) (len cap : Nat) (ls : List (List Int)) (k : Nat) (r : List Int) (h : Has w a len cap (secs ((cutAll number ls).take k) ++ r)) (hl : len ≤ 16777216) (hb : ∀ x ∈ ls, Byts x) (hn : number + needL ls ≤ 4294967296) (hn1 : number ≤ 4294967295) (hk : k < needL ls)
    (hr : r.length < 256 ∨ r = secs ((cutAll number ls).drop (k + 1))) (ht : Tab w) :
    Calls Tryd.prog 16 #[.int .i64 (number : Int), .slice a len cap] w fun e w' => ∃ a' cap', e = .returned (.tuple #[.slice a' (ls.take (frontN k ls)).length cap', .int .i64 (needL (ls.take (frontN k ls)) : Nat), .int .i64 0]) ∧ HasL w' a' (ls.take (frontN k ls)).length cap' (ls.take (frontN k ls)) ∧ Below w.heap.size w w' :=
  (read_any w number a len cap _ h hl hn1 ht).mono fun e w' ⟨ps, h1, h2⟩ => by
    rw [← rights_once (rights_missing hb hn hk r hr) h1] at h2
    obtain ⟨e1, e2⟩ := run_fronts ls number St.none k rfl rfl
    obtain ⟨a', cap', f1, f2, f3⟩ := h2
    rw [e1] at f1 f2
    rw [e2] at f1
    simp only [St.none, List.nil_append, Nat.zero_add] at f1 f2
    exact ⟨a', cap', f1, f2, f3⟩

/-- Values that are slices with these bytes. -/
def Vals (W : World) (vs : List Value) (ls : List (List Int)) : Prop := vs.length = ls.length ∧ ∀ i, i < ls.length → ∃ a n c, vs.getD i undef = .slice a n c ∧ Has W a n c (ls.getD i [])
theorem Vals.kept {W W' : World} {B : Nat} {vs : List Value} {ls : List (List Int)} (h : Vals W vs ls) (hb : Below B W W') (hB : W.heap.size ≤ B) : Vals W' vs ls :=
  ⟨h.1, fun i hi => by obtain ⟨a, n, c, e, H⟩ := h.2 i hi; exact ⟨a, n, c, e, H.kept hb hB⟩⟩
theorem Vals.snoc {W : World} {vs : List Value} {ls : List (List Int)} (h : Vals W vs ls) {a : Option Addr} {n c : Nat} {x : List Int} (H : Has W a n c x) : Vals W (vs ++ [.slice a n c]) (ls ++ [x]) := by
  refine ⟨by simp [h.1], fun i hi => ?_⟩
  have hl := h.1
  by_cases hi' : i < ls.length
  · have e1 : (vs ++ [Value.slice a n c]).getD i undef = vs.getD i undef := by simp [List.getD, List.getElem?_append_left (show i < vs.length by omega)]
    have e2 : (ls ++ [x]).getD i [] = ls.getD i [] := by simp [List.getD, List.getElem?_append_left hi']
    rw [e1, e2]; exact h.2 i hi'
  · obtain rfl : i = ls.length := by simp at hi; omega
    have e1 : (vs ++ [Value.slice a n c]).getD ls.length undef = .slice a n c := by rw [← hl]; simp [List.getD]
    have e2 : (ls ++ [x]).getD ls.length [] = x := by simp [List.getD]
    rw [e1, e2]; exact ⟨_, _, _, rfl, H⟩
theorem hasL_of_vals {W : World} {n₀ : Nat} {v : Value} {vs : List Value} {ls : List (List Int)} (hv : W.ownsRow n₀ 24 1 v ls.length vs) (h : Vals W vs ls) : ∃ a cap, v = .slice a ls.length cap ∧ HasL W a ls.length cap ls := by
  rcases hv.2 with ⟨rfl, h0⟩ | ⟨g, cap, cur, rfl, hbg, hg, hnc, hcm, hcs, htake⟩
  · obtain rfl : ls = [] := List.eq_nil_of_length_eq_zero h0
    exact ⟨none, 0, rfl, rfl, Nat.le_refl _, Nat.zero_le _, fun _ => rfl, fun hp => by simp at hp⟩
  · refine ⟨some ⟨g, 0, none⟩, cap, rfl, rfl, hnc, hcm, (fun e => by cases e), fun hp => ⟨g, 0, rfl, (Array.getElem?_eq_some_iff.1 hg).1, fun i hi => ?_⟩⟩
    have hl := h.1
    obtain ⟨a, n, c, e, hH⟩ := h.2 i hi
    refine ⟨a, n, c, ?_, hH⟩
    have := hv.cells (g := g) rfl i (vs.getD i undef) (by simp [List.getD, List.getElem?_eq_getElem (show i < vs.length by omega)])
    rw [add_plain] at this
    rw [this, e]
theorem needR_eq (x : List Int) (n : Nat) (h : x.length = n) : needR x = max 1 ((n + 243) / 244) := by unfold needR; rw [h, Nat.max_comm]
theorem take_snoc {ls : List (List Int)} {i : Nat} (h : i < ls.length) : ls.take (i + 1) = ls.take i ++ [ls.getD i []] := by
  rw [List.take_add_one, List.getElem?_eq_getElem h]
  simp [List.getD, List.getElem?_eq_getElem h]
end Go.Proofs.YtbaclihlckfndaaDoor
