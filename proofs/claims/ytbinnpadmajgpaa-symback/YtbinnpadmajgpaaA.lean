/-
  Mathematics of tables of texts: texts that rise, what Make makes, what two texts have in common, a table's bytes, and how they are read.
-/
import Derived.Test.YtbinnpadmajgpaaVM
import Derived.WalkKit
import Derived.Lib.SlicesCompact
namespace Go.Proofs.Ytbinnpadmajgpaa
open Go.RowKit Go.Lib
set_option linter.unusedVariables false
set_option linter.unusedSimpArgs false

/-- A text, as the list of its bytes. -/
abbrev Tx := List UInt8
def Asc (l : List Tx) : Prop := l.Pairwise (fun a b => a < b)
theorem asc_nodup {l : List Tx} (h : Asc l) : l.Nodup := h.imp (fun hab e => by subst e; exact List.lt_irrefl _ hab)
theorem asc_ext : ∀ {l m : List Tx}, Asc l → Asc m → (∀ x, x ∈ l ↔ x ∈ m) → l = m
  | [], [], _, _, _ => rfl
  | [], b :: m, _, _, h => by have := (h b).2 (by simp); simp at this
  | a :: l, [], _, _, h => by have := (h a).1 (by simp); simp at this
  | a :: l, b :: m, h1, h2, h => by
    rw [Asc, List.pairwise_cons] at h1 h2
    have hab : a = b := by
      rcases List.mem_cons.1 ((h a).1 (by simp)) with e | e
      · exact e
      · rcases List.mem_cons.1 ((h b).2 (by simp)) with e2 | e2
        · exact e2.symm
        · exact absurd (h1.1 b e2) (fun hlt => List.lt_irrefl _ (List.lt_trans hlt (h2.1 a e)))
    subst hab
    congr 1
    refine asc_ext h1.2 h2.2 (fun x => ?_)
    constructor
    · intro hx
      rcases List.mem_cons.1 ((h x).1 (by simp [hx])) with e | e
      · subst e; exact absurd (h1.1 x hx) (List.lt_irrefl _)
      · exact e
    · intro hx
      rcases List.mem_cons.1 ((h x).2 (by simp [hx])) with e | e
      · subst e; exact absurd (h2.1 x hx) (List.lt_irrefl _)
      · exact e
theorem asc_getD {l : List Tx} (h : Asc l) {i j : Nat} (hij : i < j) (hj : j < l.length) : l.getD i [] < l.getD j [] := by
  have := List.pairwise_iff_getElem.1 h i j (by omega) hj hij
  simpa [List.getD, List.getElem?_eq_getElem hj, List.getElem?_eq_getElem (show i < l.length by omega)] using this
theorem asc_snoc {l : List Tx} {s : Tx} (h : Asc l) (hs : ∀ x ∈ l, x < s) : Asc (l ++ [s]) := by
  unfold Asc
  rw [List.pairwise_append]
  exact ⟨h, by simp, fun a ha b hb => by rw [List.mem_singleton.1 hb]; exact hs a ha⟩
abbrev le8 : Tx → Tx → Bool := fun x y => decide (x ≤ y)
theorem le8_tr (a b c : Tx) (h1 : le8 a b = true) (h2 : le8 b c = true) : le8 a c = true := by simp only [le8, decide_eq_true_eq] at *; exact List.le_trans h1 h2
theorem le8_to (a b : Tx) : (le8 a b || le8 b a) = true := by simp only [le8, Bool.or_eq_true, decide_eq_true_eq]; exact List.le_total a b
/-- Sorted. -/
def srt (l : List Tx) : List Tx := l.mergeSort le8
theorem mem_srt {l : List Tx} {x : Tx} : x ∈ srt l ↔ x ∈ l := (List.mergeSort_perm l le8).mem_iff
theorem srt_len (l : List Tx) : (srt l).length = l.length := (List.mergeSort_perm l le8).length_eq
theorem srt_le (l : List Tx) : (srt l).Pairwise (fun a b => a ≤ b) := by
  have h1 := List.pairwise_mergeSort (le := le8) le8_tr le8_to l
  exact h1.imp (fun {a b} h => by simpa [le8] using h)
theorem lt_of_ne {a b : Tx} (h : a ≤ b) (hn : a ≠ b) : a < b := Classical.byContradiction (fun h2 => hn (List.le_antisymm h (List.not_lt.1 h2)))
theorem srt_asc {l : List Tx} (h : l.Nodup) : Asc (srt l) := by
  have h2 : (srt l).Nodup := (List.mergeSort_perm l le8).nodup_iff.2 h
  have h3 : (srt l).Pairwise (fun a b => a ≤ b ∧ a ≠ b) := List.pairwise_and_iff.2 ⟨srt_le l, h2⟩
  exact h3.imp (fun {a b} hab => lt_of_ne hab.1 hab.2)

/-! ### each once -/
theorem compact_inv (d : Array Tx) (hs : ∀ i j, i < j → j < d.size → d[i]! ≤ d[j]!) : ∀ m, m ≤ d.size → Asc (compactUpTo d m) ∧ (∀ x, x ∈ compactUpTo d m ↔ ∃ j, j < m ∧ d[j]! = x) ∧ (compactUpTo d m).length ≤ m
  | 0, _ => ⟨by simp [compactUpTo, Asc], by simp [compactUpTo], by simp [compactUpTo]⟩
  | m + 1, h => by
    obtain ⟨h1, h2, h3⟩ := compact_inv d hs m (by omega)
    rw [compactUpTo_succ]
    by_cases hk : keeps d m = true
    · rw [if_pos hk]
      refine ⟨asc_snoc h1 (fun x hx => ?_), fun x => ?_, by simp; omega⟩
      · obtain ⟨j, hj, rfl⟩ := (h2 x).1 hx
        have hk' : m = 0 ∨ d[m]! ≠ d[m - 1]! := by simpa [keeps] using hk
        rcases hk' with h0 | hne
        · omega
        · have hlt : d[m - 1]! < d[m]! := lt_of_ne (hs _ _ (by omega) (by omega)) (fun e => hne e.symm)
          rcases Nat.lt_or_ge j (m - 1) with hj2 | hj2
          · exact List.lt_of_le_of_lt (hs _ _ hj2 (by omega)) hlt
          · rw [show j = m - 1 by omega]; exact hlt
      · rw [List.mem_append, h2, List.mem_singleton]
        constructor
        · rintro (⟨j, hj, rfl⟩ | rfl)
          · exact ⟨j, by omega, rfl⟩
          · exact ⟨m, by omega, rfl⟩
        · rintro ⟨j, hj, rfl⟩
          rcases Nat.lt_or_ge j m with hj2 | hj2
          · exact .inl ⟨j, hj2, rfl⟩
          · rw [show j = m by omega]; exact .inr rfl
    · rw [if_neg hk, List.append_nil]
      have hk' : ¬ (m = 0 ∨ d[m]! ≠ d[m - 1]!) := by simpa [keeps] using hk
      have hm0 : m ≠ 0 := fun e => hk' (.inl e)
      have hme : d[m]! = d[m - 1]! := Classical.byContradiction (fun e => hk' (.inr e))
      refine ⟨h1, fun x => ?_, by omega⟩
      rw [h2]
      constructor
      · rintro ⟨j, hj, rfl⟩; exact ⟨j, by omega, rfl⟩
      · rintro ⟨j, hj, rfl⟩
        rcases Nat.lt_or_ge j m with hj2 | hj2
        · exact ⟨j, hj2, rfl⟩
        · exact ⟨m - 1, by omega, by rw [show j = m by omega, hme]⟩
theorem compact_len (l : List Tx) : (compact l).length ≤ l.length := by
  unfold compact compactUpTo
  rw [List.length_map]
  have := List.length_filter_le (keeps l.toArray) (List.range l.length)
  simpa using this
/-- The texts of l, rising, each once. -/
def mk (l : List Tx) : List Tx := compact (srt l)
theorem mk_inv (l : List Tx) : Asc (mk l) ∧ (∀ x, x ∈ mk l ↔ x ∈ l) ∧ (mk l).length ≤ l.length := by
  have hg : ∀ i, i < (srt l).length → (srt l).toArray[i]! = (srt l).getD i [] := fun i hi => by
    rw [getElem!_pos _ _ (by simpa using hi)]; simp [List.getD, List.getElem?_eq_getElem hi]
  have hp := compact_inv (srt l).toArray (fun i j hij hj => by
    have hj' : j < (srt l).length := by simpa using hj
    rw [hg i (by omega), hg j hj']
    have := List.pairwise_iff_getElem.1 (srt_le l) i j (by omega) hj' hij
    simpa [List.getD, List.getElem?_eq_getElem hj', List.getElem?_eq_getElem (show i < (srt l).length by omega)] using this) (srt l).length (by simp)
  refine ⟨hp.1, fun x => ?_, by have h := hp.2.2; have e := srt_len l; unfold mk compact; omega⟩
  rw [← mem_srt (l := l)]
  refine (hp.2.1 x).trans ?_
  constructor
  · rintro ⟨j, hj, rfl⟩
    rw [hg j hj]
    simp [List.getD, List.getElem?_eq_getElem hj]
  · intro hx
    obtain ⟨j, hj, rfl⟩ := List.getElem_of_mem hx
    exact ⟨j, hj, by rw [hg j hj]; simp [List.getD, List.getElem?_eq_getElem hj]⟩
theorem mk_asc (l : List Tx) : Asc (mk l) := (mk_inv l).1
theorem mem_mk {l : List Tx} {x : Tx} : x ∈ mk l ↔ x ∈ l := (mk_inv l).2.1 x
theorem mk_len (l : List Tx) : (mk l).length ≤ l.length := (mk_inv l).2.2
theorem mk_ext {l m : List Tx} (h : ∀ x, x ∈ l ↔ x ∈ m) : mk l = mk m := asc_ext (mk_asc l) (mk_asc m) (fun x => by rw [mem_mk, mem_mk]; exact h x)
theorem mk_nodup {l : List Tx} (h : l.Nodup) : (mk l).length = l.length := by
  rw [asc_ext (mk_asc l) (srt_asc h) (fun x => by rw [mem_mk, mem_srt]), srt_len]

/-! ### what two texts have in common -/
def cmn : Tx → Tx → Nat
  | a :: x, b :: y => if a = b then cmn x y + 1 else 0
  | _, _ => 0
theorem cmn_le : ∀ x y : Tx, cmn x y ≤ x.length ∧ cmn x y ≤ y.length
  | [], _ => by simp [cmn]
  | a :: x, [] => by simp [cmn]
  | a :: x, b :: y => by
    have := cmn_le x y
    unfold cmn
    split <;> simp <;> omega
theorem cmn_take : ∀ x y : Tx, x.take (cmn x y) = y.take (cmn x y)
  | [], y => by simp [cmn]
  | a :: x, [] => by simp [cmn]
  | a :: x, b :: y => by
    unfold cmn
    split
    · rename_i h; subst h; simp [cmn_take x y]
    · simp
theorem cmn_eq : ∀ (x y : Tx) (i : Nat), i ≤ x.length → i ≤ y.length → (∀ j, j < i → x.getD j 0 = y.getD j 0) → (i < x.length → i < y.length → x.getD i 0 ≠ y.getD i 0) → cmn x y = i
  | [], y, i, h1, _, _, _ => by simp at h1; simp [cmn, h1]
  | a :: x, [], i, _, h2, _, _ => by simp at h2; simp [cmn, h2]
  | a :: x, b :: y, 0, _, _, _, h4 => by
    have := h4 (by simp) (by simp)
    simp at this
    simp [cmn, this]
  | a :: x, b :: y, i + 1, h1, h2, h3, h4 => by
    have e := h3 0 (by omega)
    simp at e
    subst e
    simp at h1 h2
    have := cmn_eq x y i h1 h2 (fun j hj => by have := h3 (j + 1) (by omega); simpa using this) (fun u v => by have := h4 (by simpa using u) (by simpa using v); simpa using this)
    simp [cmn, this]

/-! ### bytes -/
def num (s : Tx) : List Int := s.map fun x => (x.toNat : Int)
def txt (l : List Int) : Tx := l.map fun n => UInt8.ofNat n.toNat
theorem num_len (s : Tx) : (num s).length = s.length := by simp [num]
theorem txt_len (l : List Int) : (txt l).length = l.length := by simp [txt]
theorem num_bytes (s : Tx) : ∀ x ∈ num s, 0 ≤ x ∧ x ≤ 255 := by
  intro x hx
  simp only [num, List.mem_map] at hx
  obtain ⟨b, _, rfl⟩ := hx
  have := b.toNat_lt
  omega
theorem txt_num (s : Tx) : txt (num s) = s := by
  unfold txt num
  rw [List.map_map]
  conv => rhs; rw [← List.map_id s]
  apply List.map_congr_left
  intro x _
  simp
theorem num_txt {l : List Int} (h : ∀ x ∈ l, 0 ≤ x ∧ x ≤ 255) : num (txt l) = l := by
  unfold txt num
  rw [List.map_map]
  conv => rhs; rw [← List.map_id l]
  apply List.map_congr_left
  intro x hx
  have := h x hx
  simp only [Function.comp, id, UInt8.toNat_ofNat']
  omega
/-- What a table's bytes tell of a text behind the text last. -/
def partB (last s : Tx) : List Int := V.enc (cmn last s) ++ V.pb (num (s.drop (cmn last s)))
def partsB : Tx → List Tx → List Int
  | _, [] => []
  | last, s :: r => partB last s ++ partsB s r
def lastT : Tx → List Tx → Tx
  | p, [] => p
  | _, s :: r => lastT s r
theorem partsB_snoc : ∀ (L : List Tx) (p s : Tx), partsB p (L ++ [s]) = partsB p L ++ partB (lastT p L) s
  | [], p, s => by simp [partsB, lastT]
  | x :: L, p, s => by simp only [List.cons_append, partsB, partsB_snoc L x s, lastT, List.append_assoc]
theorem lastT_snoc : ∀ (L : List Tx) (p s : Tx), lastT p (L ++ [s]) = s
  | [], p, s => rfl
  | x :: L, p, s => by simp only [List.cons_append, lastT, lastT_snoc L x s]
theorem lastT_getD : ∀ (L : List Tx) (p : Tx), 0 < L.length → lastT p L = L.getD (L.length - 1) []
  | [], p, h => by simp at h
  | [x], p, _ => rfl
  | x :: y :: L, p, _ => by
    have := lastT_getD (y :: L) x (by simp)
    simp only [lastT] at this ⊢
    simpa using this
theorem lastT_mem : ∀ (L : List Tx) (p : Tx), 0 < L.length → lastT p L ∈ L
  | [], p, h => by simp at h
  | [x], p, _ => by simp [lastT]
  | x :: y :: L, p, _ => by
    have := lastT_mem (y :: L) x (by simp)
    exact List.mem_cons_of_mem x this
/-- A table's bytes. -/
def tabB (L : List Tx) : List Int := V.enc L.length ++ partsB [] L

/-! ### reading -/
abbrev Pa := Nat × List Int
noncomputable def rp (t : List Int) : Option (Pa × Nat) := match V.rn t with
  | none => none
  | some (n, k) => match V.rb (t.drop k) with
    | none => none
    | some (x, m) => some ((n, x), k + m)
noncomputable def rps : Nat → List Int → Option (List Pa × Nat)
  | 0, _ => some ([], 0)
  | n + 1, t => match rp t with
    | none => none
    | some (x, k) => match rps n (t.drop k) with
      | none => none
      | some (X, m) => some (x :: X, k + m)
/-- The list with one text more, if its part is a table's. -/
def wth (L : List Tx) (p : Pa) : Option (List Tx) :=
  if p.1 ≤ (lastT [] L).length ∧ ((lastT [] L).take p.1 ++ txt p.2).length ≤ 256 ∧ (L = [] ∨ lastT [] L < (lastT [] L).take p.1 ++ txt p.2) ∧ cmn (lastT [] L) ((lastT [] L).take p.1 ++ txt p.2) = p.1 then some (L ++ [(lastT [] L).take p.1 ++ txt p.2]) else none
def wths : List Tx → List Pa → Option (List Tx)
  | L, [] => some L
  | L, p :: r => match wth L p with
    | none => none
    | some M => wths M r
theorem wths_snoc : ∀ (X : List Pa) (L : List Tx) (p : Pa), wths L (X ++ [p]) = (wths L X).bind (wth · p)
  | [], L, p => by simp only [List.nil_append, wths, Option.bind_some]; cases wth L p <;> rfl
  | x :: X, L, p => by
    simp only [List.cons_append, wths]
    cases h : wth L x with
    | none => rfl
    | some M => exact wths_snoc X M p
theorem rps_snoc : ∀ (i : Nat) (t : List Int) (X : List Pa) (p : Nat) (x : Pa) (k : Nat), rps i t = some (X, p) → rp (t.drop p) = some (x, k) → rps (i + 1) t = some (X ++ [x], p + k)
  | 0, t, X, p, x, k, h, hx => by
    simp only [rps, Option.some.injEq, Prod.mk.injEq] at h
    obtain ⟨rfl, rfl⟩ := h
    simp only [List.drop_zero] at hx
    simp [rps, hx]
  | i + 1, t, X, p, x, k, h, hx => by
    rw [rps] at h ⊢
    cases hr : rp t with
    | none => rw [hr] at h; cases h
    | some v =>
      obtain ⟨y, m⟩ := v
      rw [hr] at h
      simp only at h ⊢
      cases hs : rps i (t.drop m) with
      | none => rw [hs] at h; cases h
      | some v2 =>
        obtain ⟨Y, q⟩ := v2
        rw [hs] at h
        simp only [Option.some.injEq, Prod.mk.injEq] at h
        obtain ⟨rfl, rfl⟩ := h
        have := rps_snoc i (t.drop m) Y q x k hs (by rw [List.drop_drop]; exact hx)
        rw [this]
        simp [Nat.add_assoc]
theorem rps_stop : ∀ (i : Nat) (t : List Int) (X : List Pa) (p n : Nat), rps i t = some (X, p) → rp (t.drop p) = none → i < n → rps n t = none
  | 0, t, X, p, n + 1, h, hx, _ => by
    simp only [rps, Option.some.injEq, Prod.mk.injEq] at h
    obtain ⟨rfl, rfl⟩ := h
    simp only [List.drop_zero] at hx
    simp [rps, hx]
  | i + 1, t, X, p, n + 1, h, hx, hn => by
    rw [rps] at h ⊢
    cases hr : rp t with
    | none => rfl
    | some v =>
      obtain ⟨y, m⟩ := v
      rw [hr] at h
      simp only at h ⊢
      cases hs : rps i (t.drop m) with
      | none => rw [hs] at h; cases h
      | some v2 =>
        obtain ⟨Y, q⟩ := v2
        rw [hs] at h
        simp only [Option.some.injEq, Prod.mk.injEq] at h
        obtain ⟨rfl, rfl⟩ := h
        rw [rps_stop i (t.drop m) Y q n hs (by rw [List.drop_drop]; exact hx) (by omega)]
theorem rp_bytes {t : List Int} (hb : ∀ x ∈ t, 0 ≤ x ∧ x ≤ 255) {x : Pa} {k : Nat} (h : rp t = some (x, k)) : t.take k = V.enc x.1 ++ V.pb x.2 ∧ k ≤ t.length ∧ 2 ≤ k ∧ x.1 < 18446744073709551616 ∧ x.2.length ≤ 65536 ∧ ∀ y ∈ x.2, 0 ≤ y ∧ y ≤ 255 := by
  unfold rp at h
  split at h
  · cases h
  · rename_i n k0 hn
    split at h
    · cases h
    · rename_i y m hm
      simp only [Option.some.injEq, Prod.mk.injEq] at h
      obtain ⟨rfl, rfl⟩ := h
      obtain ⟨a1, a2, a3, a4⟩ := V.enc_rn hb hn
      obtain ⟨b1, b2, b3, b4, b5⟩ := V.pb_rb (fun z hz => hb z (List.mem_of_mem_drop hz)) hm
      rw [List.length_drop] at b2
      refine ⟨?_, by omega, by omega, a4, b4, b5⟩
      rw [← a1, ← b1, List.take_add]
theorem rp_part (n : Nat) (x r : List Int) (hn : n < 18446744073709551616) (hx : x.length ≤ 65536) : rp (V.enc n ++ V.pb x ++ r) = some ((n, x), (V.enc n ++ V.pb x).length) := by
  unfold rp
  rw [List.append_assoc, V.rn_enc _ _ hn]
  simp only [List.drop_left]
  rw [V.rb_pb _ _ hx]
  simp
/-- Texts of a table. -/
def Good (L : List Tx) : Prop := Asc L ∧ (∀ s ∈ L, s.length ≤ 256) ∧ L.length ≤ 4096
theorem wth_part {L : List Tx} {s : Tx} (h256 : s.length ≤ 256) (hlt : L = [] ∨ lastT [] L < s) : wth L (cmn (lastT [] L) s, num (s.drop (cmn (lastT [] L) s))) = some (L ++ [s]) := by
  have hc := cmn_le (lastT [] L) s
  have e : (lastT [] L).take (cmn (lastT [] L) s) ++ txt (num (s.drop (cmn (lastT [] L) s))) = s := by
    rw [txt_num, cmn_take, List.take_append_drop]
  unfold wth
  simp only [e]
  rw [if_pos ⟨hc.1, h256, hlt, trivial⟩]
theorem parts_back : ∀ (R L : List Tx) (r : List Int), (∀ s ∈ R, s.length ≤ 256) → Asc (L ++ R) → ∃ P, rps R.length (partsB (lastT [] L) R ++ r) = some (P, (partsB (lastT [] L) R).length) ∧ wths L P = some (L ++ R)
  | [], L, r, _, _ => ⟨[], by simp [rps, partsB], by simp [wths]⟩
  | s :: R, L, r, h, ha => by
    have hc := cmn_le (lastT [] L) s
    have hs := h s (by simp)
    have hlt : L = [] ∨ lastT [] L < s := by
      rcases Nat.eq_zero_or_pos L.length with h0 | h0
      · exact .inl (List.eq_nil_of_length_eq_zero h0)
      · exact .inr ((List.pairwise_append.1 ha).2.2 _ (lastT_mem L [] h0) s (by simp))
    obtain ⟨P, hP1, hP2⟩ := parts_back R (L ++ [s]) r (fun x hx => h x (by simp [hx])) (by rw [List.append_assoc]; exact ha)
    rw [lastT_snoc] at hP1
    refine ⟨(cmn (lastT [] L) s, num (s.drop (cmn (lastT [] L) s))) :: P, ?_, ?_⟩
    · have h1 : rp (partsB (lastT [] L) (s :: R) ++ r) = some ((cmn (lastT [] L) s, num (s.drop (cmn (lastT [] L) s))), (partB (lastT [] L) s).length) := by
        simp only [partsB, partB, List.append_assoc]
        have := rp_part (cmn (lastT [] L) s) (num (s.drop (cmn (lastT [] L) s))) (partsB s R ++ r) (by omega) (by rw [num_len, List.length_drop]; omega)
        simpa [List.append_assoc] using this
      have h2 : (partsB (lastT [] L) (s :: R) ++ r).drop (partB (lastT [] L) s).length = partsB s R ++ r := by
        simp only [partsB, List.append_assoc, List.drop_left]
      simp only [List.length_cons, rps, h1, h2, hP1]
      simp [partsB]
    · simp only [wths, wth_part hs hlt]
      rw [hP2, List.append_assoc]
      rfl
theorem tab_back {L : List Tx} (h : Good L) (r : List Int) : V.rn (tabB L ++ r) = some (L.length, (V.enc L.length).length) ∧ ∃ P, rps L.length ((tabB L ++ r).drop (V.enc L.length).length) = some (P, (partsB [] L).length) ∧ wths [] P = some L := by
  have h1 := h.2.2
  refine ⟨?_, ?_⟩
  · unfold tabB; rw [List.append_assoc, V.rn_enc _ _ (by omega)]
  · have := parts_back L [] r h.2.1 (by simpa using h.1)
    unfold tabB
    rw [List.append_assoc, List.drop_left]
    simpa [lastT] using this
theorem parts_forth : ∀ (n : Nat) (t : List Int), (∀ x ∈ t, 0 ≤ x ∧ x ≤ 255) → ∀ (P : List Pa) (k : Nat), rps n t = some (P, k) → k ≤ t.length ∧ 2 * n ≤ k ∧ P.length = n ∧ ∀ L M, wths L P = some M → ∃ R, M = L ++ R ∧ R.length = n ∧ t.take k = partsB (lastT [] L) R
  | 0, t, _, P, k, h => by
    simp only [rps, Option.some.injEq, Prod.mk.injEq] at h
    obtain ⟨rfl, rfl⟩ := h
    refine ⟨by omega, by omega, rfl, fun L M hM => ?_⟩
    simp only [wths, Option.some.injEq] at hM
    exact ⟨[], by simp [hM], rfl, by simp [partsB]⟩
  | n + 1, t, hb, P, k, h => by
    rw [rps] at h
    cases hr : rp t with
    | none => rw [hr] at h; cases h
    | some v =>
      obtain ⟨x, m⟩ := v
      rw [hr] at h
      simp only at h
      cases hs : rps n (t.drop m) with
      | none => rw [hs] at h; cases h
      | some v2 =>
        obtain ⟨X, q⟩ := v2
        rw [hs] at h
        simp only [Option.some.injEq, Prod.mk.injEq] at h
        obtain ⟨rfl, rfl⟩ := h
        obtain ⟨a1, a2, a3, a4, a5, a6⟩ := rp_bytes hb hr
        obtain ⟨b1, b2, b3, b4⟩ := parts_forth n (t.drop m) (fun z hz => hb z (List.mem_of_mem_drop hz)) X q hs
        rw [List.length_drop] at b1
        refine ⟨by omega, by omega, by simp [b3], fun L M hM => ?_⟩
        simp only [wths] at hM
        cases hw : wth L x with
        | none => rw [hw] at hM; cases hM
        | some L1 =>
          rw [hw] at hM
          simp only at hM
          obtain ⟨R, hR1, hR2, hR3⟩ := b4 L1 M hM
          unfold wth at hw
          split at hw
          · rename_i hc
            obtain ⟨c1, c2, c3, c4⟩ := hc
            simp only [Option.some.injEq] at hw
            obtain ⟨s, hsd⟩ : ∃ s, (lastT [] L).take x.1 ++ txt x.2 = s := ⟨_, rfl⟩
            rw [hsd] at hw c4
            subst hw
            refine ⟨s :: R, by rw [hR1]; simp, by simp [hR2], ?_⟩
            rw [lastT_snoc] at hR3
            have hd : s.drop x.1 = txt x.2 := by
              rw [← hsd, List.drop_append_of_le_length (by rw [List.length_take]; omega), List.drop_eq_nil_of_le (by rw [List.length_take]; omega)]
              rfl
            simp only [partsB, partB, c4, hd, num_txt a6]
            rw [List.take_add, a1, hR3]
          · cases hw
theorem tab_forth {t : List Int} (hb : ∀ x ∈ t, 0 ≤ x ∧ x ≤ 255) {n k m : Nat} {P : List Pa} {L : List Tx} (h1 : V.rn t = some (n, k)) (h2 : rps n (t.drop k) = some (P, m)) (h3 : wths [] P = some L) : tabB L = t.take (k + m) ∧ k + m ≤ t.length ∧ L.length = n := by
  obtain ⟨a1, a2, a3, a4⟩ := V.enc_rn hb h1
  obtain ⟨b1, b2, b3, b4⟩ := parts_forth n (t.drop k) (fun z hz => hb z (List.mem_of_mem_drop hz)) P m h2
  obtain ⟨R, c1, c2, c3⟩ := b4 [] L h3
  rw [List.length_drop] at b1
  simp only [List.nil_append] at c1
  subst c1
  refine ⟨?_, by omega, c2⟩
  unfold tabB
  rw [c2, ← a1, List.take_add, c3]
  rfl
theorem wths_good : ∀ (P : List Pa) (L M : List Tx), Asc L → (∀ s ∈ L, s.length ≤ 256) → wths L P = some M → Asc M ∧ (∀ s ∈ M, s.length ≤ 256) ∧ M.length = L.length + P.length
  | [], L, M, h1, h2, h => by simp only [wths, Option.some.injEq] at h; subst h; exact ⟨h1, h2, rfl⟩
  | p :: P, L, M, h1, h2, h => by
    simp only [wths] at h
    cases hw : wth L p with
    | none => rw [hw] at h; cases h
    | some L1 =>
      rw [hw] at h
      simp only at h
      unfold wth at hw
      split at hw
      · rename_i hc
        simp only [Option.some.injEq] at hw
        subst hw
        have hl : ∀ x ∈ L, x < (lastT [] L).take p.1 ++ txt p.2 := fun x hx => by
          rcases hc.2.2.1 with rfl | hlt
          · simp at hx
          · have h0 : 0 < L.length := List.length_pos_of_mem hx
            obtain ⟨i, hi, rfl⟩ := List.getElem_of_mem hx
            rcases Nat.lt_or_ge i (L.length - 1) with h | h
            · have := asc_getD h1 h (by omega)
              rw [← lastT_getD L [] h0] at this
              have e : L.getD i [] = L[i] := by simp [List.getD, List.getElem?_eq_getElem hi]
              rw [e] at this
              exact List.lt_trans this hlt
            · have e : L[i] = lastT [] L := by rw [lastT_getD L [] h0, show L.length - 1 = i by omega]; simp [List.getD, List.getElem?_eq_getElem hi]
              rw [e]; exact hlt
        obtain ⟨r1, r2, r3⟩ := wths_good P _ M (asc_snoc h1 hl) (fun s hs => by
          rcases List.mem_append.1 hs with h | h
          · exact h2 s h
          · rw [List.mem_singleton.1 h]; exact hc.2.1) h
        exact ⟨r1, r2, by rw [r3]; simp; omega⟩
      · cases hw
end Go.Proofs.Ytbinnpadmajgpaa
