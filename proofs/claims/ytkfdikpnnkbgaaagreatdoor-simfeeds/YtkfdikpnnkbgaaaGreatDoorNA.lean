/-
  What patterns mean; what a program accepts; a pattern's program accepts what the pattern means.
-/
import Derived.Test.YtkfdikpnnkbgaaaGreatDoorMA
namespace Go.Proofs.YtkfdikpnnkbgaaaGreatDoor
open Go.RowKit
set_option linter.unusedVariables false
set_option linter.unusedSimpArgs false

/-- Is the byte b in the set? -/
def inS (s : S4) (b : Nat) : Bool := (s.get (b / 64) / 2 ^ (b % 64)).tmod 2 == 1
theorem inS_no (b : Nat) : inS noSet b = false := by
  have h : ∀ k, noSet.get k = 0 := fun k => by unfold S4.get; split <;> rfl
  unfold inS
  rw [h]
  simp
/-- Texts as lists of bytes; sets of texts. -/
abbrev Lg := List Nat → Prop
def eps : Lg := fun s => s = []
def cat (M N : Lg) : Lg := fun s => ∃ u v, s = u ++ v ∧ M u ∧ N v
def powM (M : Lg) : Nat → Lg
  | 0 => eps
  | r + 1 => cat M (powM M r)
def sqM : List Lg → Lg
  | [] => eps
  | M :: r => cat M (sqM r)
def orM (l : List Lg) : Lg := fun s => ∃ M ∈ l, M s
def star (M : Lg) : Lg := fun s => ∃ r, powM M r s
def upto (M : Lg) (j : Nat) : Lg := fun s => ∃ r, r ≤ j ∧ powM M r s
def repM (M : Lg) (mn : Nat) (mx : Int) : Lg := fun s => ∃ r, mn ≤ r ∧ (mx = -1 ∨ r ≤ mx.toNat) ∧ powM M r s
def byM (x : S4) : Lg := fun s => ∃ b, s = [b] ∧ inS x b = true
def meN (n : Nd) (l : List Lg) : Lg := if n.k = 1 then byM n.s else if n.k = 4 then repM (l.headD eps) n.mn.toNat n.mx else if n.k = 3 then orM l else sqM l
def Fo.mes : Fo → List Lg
  | .nil => []
  | .cons n k r => meN n k.mes :: r.mes
theorem Fo.mes_len : ∀ f : Fo, f.mes.length = f.len
  | .nil => rfl
  | .cons n k r => by simp [Fo.mes, Fo.len, Fo.mes_len r]
/-- The pattern means the text. -/
def meT (t : Tr) : Lg := meN t.1 t.2.mes
theorem cat_eps (M : Lg) (s : List Nat) : cat M eps s ↔ M s := ⟨fun ⟨u, v, h, h1, h2⟩ => by have h3 : v = [] := h2; subst h3; rw [h, List.append_nil]; exact h1, fun h => ⟨s, [], by simp, h, rfl⟩⟩
theorem cat_assoc (M N O : Lg) (s : List Nat) : cat (cat M N) O s ↔ cat M (cat N O) s := by
  constructor
  · rintro ⟨_, w, rfl, ⟨u, v, rfl, h1, h2⟩, h3⟩
    exact ⟨u, v ++ w, by simp, h1, v, w, rfl, h2, h3⟩
  · rintro ⟨u, _, rfl, h1, v, w, rfl, h2, h3⟩
    exact ⟨u ++ v, w, by simp, ⟨u, v, rfl, h1, h2⟩, h3⟩

/-- From the instruction i on, in k steps, all of s is read and an end is come to. -/
def AccN (L : List Ins) : Nat → Nat → List Nat → Prop
  | 0, i, s => ∃ q, L[i]? = some q ∧ q.op = 3 ∧ s = []
  | k + 1, i, s => ∃ q, L[i]? = some q ∧ (((q.op = 2 ∨ q.op = 4) ∧ AccN L k q.x.toNat s) ∨ (q.op = 2 ∧ AccN L k q.y.toNat s) ∨ (q.op = 1 ∧ ∃ b v, s = b :: v ∧ inS q.s b = true ∧ AccN L k q.x.toNat v))
def Acc (L : List Ins) (i : Nat) (s : List Nat) : Prop := ∃ k, AccN L k i s
/-- The instructions M lie in L from a on. -/
def Lies (L : List Ins) (a : Nat) (M : List Ins) : Prop := ∀ k i, M[k]? = some i → L[a + k]? = some i
theorem Lies.left {L M N : List Ins} {a : Nat} (h : Lies L a (M ++ N)) : Lies L a M := fun k i hk => h k i (by rw [List.getElem?_append_left (List.getElem?_eq_some_iff.1 hk).1]; exact hk)
theorem Lies.right {L M N : List Ins} {a : Nat} (h : Lies L a (M ++ N)) : Lies L (a + M.length) N := fun k i hk => by
  have := h (M.length + k) i (by rw [List.getElem?_append_right (by omega), Nat.add_sub_cancel_left]; exact hk)
  rwa [← Nat.add_assoc] at this
theorem Lies.head {L M : List Ins} {a : Nat} {i : Ins} (h : Lies L a (i :: M)) : L[a]? = some i := h 0 i rfl
theorem Lies.tail {L M : List Ins} {a : Nat} {i : Ins} (h : Lies L a (i :: M)) : Lies L (a + 1) M := fun k j hk => by
  have := h (k + 1) j (by simpa using hk)
  rwa [show a + (k + 1) = a + 1 + k by omega] at this
/-- What is put, going on at m, means M. -/
structure MnA (L : List Ins) (a m : Nat) (M : Lg) : Prop where
  snd : ∀ k s, AccN L k a s → ∃ u v k', s = u ++ v ∧ M u ∧ k' < k ∧ AccN L k' m v
  cpl : ∀ u v, M u → Acc L m v → Acc L a (u ++ v)
def MnL (f : Nat → List Ins) (m : Nat) (M : Lg) : Prop := ∀ L a, Lies L a (f a) → MnA L a m M
def Mns (c : Cd) (M : Lg) : Prop := ∀ m, MnL (fun a => c.put a m) m M
theorem MnA.iff {L : List Ins} {a m : Nat} {M N : Lg} (h : MnA L a m M) (e : ∀ s, M s ↔ N s) : MnA L a m N :=
  ⟨fun k s hs => by obtain ⟨u, v, k', h1, h2, h3⟩ := h.snd k s hs; exact ⟨u, v, k', h1, (e u).1 h2, h3⟩, fun u v hu hv => h.cpl u v ((e u).2 hu) hv⟩
theorem MnA.cat {L : List Ins} {a b m : Nat} {M N : Lg} (h : MnA L a b M) (k : MnA L b m N) : MnA L a m (cat M N) :=
  ⟨fun n s hs => by
    obtain ⟨u, v, n1, rfl, h2, h3, h4⟩ := h.snd n s hs
    obtain ⟨u2, v2, n2, rfl, k2, k3, k4⟩ := k.snd n1 v h4
    exact ⟨u ++ u2, v2, n2, by simp, ⟨u, u2, rfl, h2, k2⟩, by omega, k4⟩,
   fun u v hu hv => by
    obtain ⟨x, y, rfl, hx, hy⟩ := hu
    rw [List.append_assoc]
    exact h.cpl x (y ++ v) hx (k.cpl y v hy hv)⟩
theorem sgl_mns (x : S4) : Mns (sgl 1 x) (byM x) := fun m L a h => by
  have h0 : L[a]? = some ⟨1, x, (m : Int), 0⟩ := Lies.head (M := []) h
  constructor
  · intro k s hs
    cases k with
    | zero =>
      obtain ⟨q, hq, hop, _⟩ := hs
      rw [h0] at hq; cases hq
      simp at hop
    | succ k =>
      obtain ⟨q, hq, hh⟩ := hs
      rw [h0] at hq; cases hq
      rcases hh with ⟨h1, _⟩ | ⟨h1, _⟩ | ⟨_, b, v, rfl, hb, hv⟩
      · simp at h1
      · simp at h1
      · exact ⟨[b], v, k, rfl, ⟨b, rfl, hb⟩, by omega, by simpa using hv⟩
  · rintro u v ⟨b, rfl, hb⟩ ⟨k, hk⟩
    exact ⟨k + 1, _, h0, .inr (.inr ⟨rfl, b, v, rfl, hb, by simpa using hk⟩)⟩
theorem jump_mna {L : List Ins} {a m : Nat} (h0 : L[a]? = some ⟨4, noSet, (m : Int), 0⟩) : MnA L a m eps := by
  constructor
  · intro k s hs
    cases k with
    | zero =>
      obtain ⟨q, hq, hop, _⟩ := hs
      rw [h0] at hq; cases hq
      simp at hop
    | succ k =>
      obtain ⟨q, hq, hh⟩ := hs
      rw [h0] at hq; cases hq
      rcases hh with ⟨_, hv⟩ | ⟨h1, _⟩ | ⟨h1, _⟩
      · exact ⟨[], s, k, rfl, rfl, by omega, by simpa using hv⟩
      · simp at h1
      · simp at h1
  · rintro u v rfl ⟨k, hk⟩
    exact ⟨k + 1, _, h0, .inl ⟨.inr rfl, by simpa using hk⟩⟩
/-- A split. -/
theorem split_mna {L : List Ins} {a x y m : Nat} {M N : Lg} (h0 : L[a]? = some ⟨2, noSet, (x : Int), (y : Int)⟩) (h : MnA L x m M) (k : MnA L y m N) : MnA L a m (fun s => M s ∨ N s) := by
  constructor
  · intro n s hs
    cases n with
    | zero =>
      obtain ⟨q, hq, hop, _⟩ := hs
      rw [h0] at hq; cases hq
      simp at hop
    | succ n =>
      obtain ⟨q, hq, hh⟩ := hs
      rw [h0] at hq; cases hq
      rcases hh with ⟨_, hv⟩ | ⟨_, hv⟩ | ⟨h1, _⟩
      · obtain ⟨u, v, k', e, h2, h3, h4⟩ := h.snd n s (by simpa using hv)
        exact ⟨u, v, k', e, .inl h2, by omega, h4⟩
      · obtain ⟨u, v, k', e, h2, h3, h4⟩ := k.snd n s (by simpa using hv)
        exact ⟨u, v, k', e, .inr h2, by omega, h4⟩
      · simp at h1
  · rintro u v (hu | hu) hv
    · obtain ⟨n, hn⟩ := h.cpl u v hu hv
      exact ⟨n + 1, _, h0, .inl ⟨.inl rfl, by simpa using hn⟩⟩
    · obtain ⟨n, hn⟩ := k.cpl u v hu hv
      exact ⟨n + 1, _, h0, .inr (.inl ⟨rfl, by simpa using hn⟩)⟩
/-- Where one goes on, nothing is read. -/
theorem split_out {L : List Ins} {a x m : Nat} {M : Lg} (h0 : L[a]? = some ⟨2, noSet, (x : Int), (m : Int)⟩) (h : MnA L x m M) : MnA L a m (fun s => M s ∨ s = []) := by
  constructor
  · intro n s hs
    cases n with
    | zero =>
      obtain ⟨q, hq, hop, _⟩ := hs
      rw [h0] at hq; cases hq
      simp at hop
    | succ n =>
      obtain ⟨q, hq, hh⟩ := hs
      rw [h0] at hq; cases hq
      rcases hh with ⟨_, hv⟩ | ⟨_, hv⟩ | ⟨h1, _⟩
      · obtain ⟨u, v, k', e, h2, h3, h4⟩ := h.snd n s (by simpa using hv)
        exact ⟨u, v, k', e, .inl h2, by omega, h4⟩
      · exact ⟨[], s, n, rfl, .inr rfl, by omega, by simpa using hv⟩
      · simp at h1
  · rintro u v (hu | rfl) hv
    · obtain ⟨n, hn⟩ := h.cpl u v hu hv
      exact ⟨n + 1, _, h0, .inl ⟨.inl rfl, by simpa using hn⟩⟩
    · obtain ⟨n, hn⟩ := hv
      exact ⟨n + 1, _, h0, .inr (.inl ⟨rfl, by simpa using hn⟩)⟩
theorem sq_cons {c : Cd} {M N : Lg} {l : List Cd} {m : Nat} (hc : Mns c M) (h : MnL (fun a => sqP l a m) m N) (hl : l = [] → ∀ s, N s ↔ s = []) : MnL (fun a => sqP (c :: l) a m) m (cat M N) := fun L a hL => by
  cases l with
  | nil => exact (hc m L a hL).iff (fun s => by
      rw [← cat_eps M s]
      constructor
      · rintro ⟨u, v, e, h1, h2⟩; exact ⟨u, v, e, h1, (hl rfl v).2 h2⟩
      · rintro ⟨u, v, e, h1, h2⟩; exact ⟨u, v, e, h1, (hl rfl v).1 h2⟩)
  | cons d r =>
    have h1 := hc (a + c.n) L a (Lies.left hL)
    have h2 := h L (a + c.n) (by have := Lies.right hL; rwa [c.len] at this)
    exact h1.cat h2
theorem sq_nil (m : Nat) : MnL (fun a => sqP [] a m) m eps := fun L a hL => jump_mna (Lies.head hL)
/-- Codes and what they mean, one by one. -/
inductive MnsL : List Cd → List Lg → Prop
  | nil : MnsL [] []
  | cons {c : Cd} {M : Lg} {l : List Cd} {Ms : List Lg} : Mns c M → MnsL l Ms → MnsL (c :: l) (M :: Ms)
theorem sq_mns : ∀ {l : List Cd} {Ms : List Lg}, MnsL l Ms → ∀ m, MnL (fun a => sqP l a m) m (sqM Ms)
  | _, _, .nil, m => sq_nil m
  | _, _, .cons hc hl, m => sq_cons hc (sq_mns hl m) (fun e => by subst e; cases hl; exact fun s => Iff.rfl)
theorem ch_mns : ∀ {l : List Cd} {Ms : List Lg}, MnsL l Ms → ∀ m, MnL (fun a => chP l a m) m (orM Ms)
  | _, _, .nil, m => fun L a hL => by
    have h0 : L[a]? = some ⟨1, noSet, (m : Int), 0⟩ := Lies.head hL
    constructor
    · intro k s hs
      cases k with
      | zero =>
        obtain ⟨q, hq, hop, _⟩ := hs
        rw [h0] at hq; cases hq
        simp at hop
      | succ k =>
        obtain ⟨q, hq, hh⟩ := hs
        rw [h0] at hq; cases hq
        rcases hh with ⟨h1, _⟩ | ⟨h1, _⟩ | ⟨_, b, v, rfl, hb, hv⟩
        · simp at h1
        · simp at h1
        · rw [inS_no] at hb; cases hb
    · rintro u v ⟨M, hM, _⟩
      exact (List.not_mem_nil hM).elim
  | _, _, .cons (l := []) hc .nil, m => fun L a hL => (hc m L a hL).iff (fun s => by simp [orM])
  | _, _, .cons (c := c) (l := d :: r) (Ms := _) hc hl, m => fun L a hL => by
    have h0 := Lies.head hL
    have h1 := Lies.tail hL
    have h2 := hc m L (a + 1) (Lies.left h1)
    have h3 := ch_mns hl m L (a + 1 + c.n) (by have := Lies.right h1; rwa [c.len] at this)
    exact (split_mna h0 h2 h3).iff (fun s => by simp [orM])
theorem powM_add (M : Lg) : ∀ (p q : Nat) (s : List Nat), powM M (p + q) s ↔ cat (powM M p) (powM M q) s
  | 0, q, s => by rw [Nat.zero_add]; exact ⟨fun h => ⟨[], s, rfl, rfl, h⟩, fun ⟨u, v, e, h1, h2⟩ => by have h3 : u = [] := h1; subst h3; rw [e]; exact h2⟩
  | p + 1, q, s => by
    rw [show p + 1 + q = (p + q) + 1 by omega]
    show cat M (powM M (p + q)) s ↔ cat (cat M (powM M p)) (powM M q) s
    rw [cat_assoc]
    constructor
    · rintro ⟨u, v, e, h1, h2⟩; exact ⟨u, v, e, h1, (powM_add M p q v).1 h2⟩
    · rintro ⟨u, v, e, h1, h2⟩; exact ⟨u, v, e, h1, (powM_add M p q v).2 h2⟩
theorem lp_mns {c : Cd} {M : Lg} (hc : Mns c M) : Mns (lp c) (star M) := fun m L a hL => by
  have h0 : L[a]? = some ⟨2, noSet, ((a + 1 : Nat) : Int), (m : Int)⟩ := Lies.head hL
  have h1 := hc a L (a + 1) (Lies.tail hL)
  constructor
  · intro k
    induction k using Nat.strongRecOn with
    | _ k ih =>
      intro s hs
      cases k with
      | zero =>
        obtain ⟨q, hq, hop, _⟩ := hs
        rw [h0] at hq; cases hq
        simp at hop
      | succ k =>
        obtain ⟨q, hq, hh⟩ := hs
        rw [h0] at hq; cases hq
        rcases hh with ⟨_, hv⟩ | ⟨_, hv⟩ | ⟨h1, _⟩
        · obtain ⟨u, v, k', rfl, h2, h3, h4⟩ := h1.snd k s (by simpa using hv)
          obtain ⟨u2, v2, k2, rfl, ⟨r, hr⟩, h6, h7⟩ := ih k' (by omega) v h4
          exact ⟨u ++ u2, v2, k2, by simp, ⟨r + 1, u, u2, rfl, h2, hr⟩, by omega, h7⟩
        · exact ⟨[], s, k, rfl, ⟨0, rfl⟩, by omega, by simpa using hv⟩
        · simp at h1
  · rintro u v ⟨r, hr⟩ hv
    induction r generalizing u with
    | zero =>
      have e : u = [] := hr
      subst e
      obtain ⟨n, hn⟩ := hv
      exact ⟨n + 1, _, h0, .inr (.inl ⟨rfl, by simpa using hn⟩)⟩
    | succ r ih =>
      obtain ⟨x, y, rfl, hx, hy⟩ := hr
      obtain ⟨n, hn⟩ := h1.cpl x (y ++ v) hx (ih y hy)
      rw [List.append_assoc]
      exact ⟨n + 1, _, h0, .inl ⟨.inl rfl, by simpa using hn⟩⟩
theorem opts_mns {c : Cd} {M : Lg} (hc : Mns c M) (m : Nat) : ∀ j, MnL (fun a => sqP (List.replicate j (opt c m)) a m) m (upto M j)
  | 0 => fun L a hL => (sq_nil m L a hL).iff (fun s => ⟨fun h => ⟨0, Nat.le_refl _, h⟩, fun ⟨r, hr, h⟩ => by
    obtain rfl : r = 0 := by omega
    exact h⟩)
  | j + 1 => fun L a hL => by
    have key : ∀ b, MnA L (a + 1) b M → MnA L b m (upto M j) → L[a]? = some ⟨2, noSet, ((a + 1 : Nat) : Int), (m : Int)⟩ → MnA L a m (upto M (j + 1)) := fun b h1 h2 h0 =>
      (split_out h0 (h1.cat h2)).iff (fun s => by
        constructor
        · rintro (⟨u, v, e, hu, r, hr, hv⟩ | rfl)
          · exact ⟨r + 1, by omega, u, v, e, hu, hv⟩
          · exact ⟨0, by omega, rfl⟩
        · rintro ⟨r, hr, hs⟩
          cases r with
          | zero => exact .inr hs
          | succ r => obtain ⟨u, v, e, hu, hv⟩ := hs; exact .inl ⟨u, v, e, hu, r, by omega, hv⟩)
    cases j with
    | zero =>
      have hL' : Lies L a ((opt c m).put a m) := hL
      have h1 := hc m L (a + 1) (Lies.tail hL')
      refine (split_out (Lies.head hL') h1).iff (fun s => ?_)
      constructor
      · rintro (h | rfl)
        · exact ⟨1, by omega, (cat_eps M s).2 h⟩
        · exact ⟨0, by omega, rfl⟩
      · rintro ⟨r, hr, hs⟩
        rcases (show r = 0 ∨ r = 1 by omega) with rfl | rfl
        · exact .inr hs
        · exact .inl ((cat_eps M s).1 hs)
    | succ j =>
      have hL' : Lies L a ((opt c m).put a (a + (opt c m).n) ++ sqP (List.replicate (j + 1) (opt c m)) (a + (opt c m).n) m) := hL
      have h1 := hc (a + (opt c m).n) L (a + 1) (Lies.tail (Lies.left hL'))
      have h2 := opts_mns hc m (j + 1) L (a + (opt c m).n) (by have := Lies.right hL'; rwa [(opt c m).len] at this)
      exact key _ h1 h2 (Lies.head (Lies.left hL'))
theorem pre_mns {c : Cd} {M N : Lg} (hc : Mns c M) {m : Nat} {tail : List Cd} (ht : MnL (fun a => sqP tail a m) m N) (he : tail = [] → ∀ s, N s ↔ s = []) : ∀ p, MnL (fun a => sqP (List.replicate p c ++ tail) a m) m (cat (powM M p) N)
  | 0 => fun L a hL => (ht L a (by simpa using hL)).iff (fun s => ⟨fun h => ⟨[], s, rfl, rfl, h⟩, fun ⟨u, v, e, h1, h2⟩ => by have h3 : u = [] := h1; subst h3; rw [e]; exact h2⟩)
  | p + 1 => fun L a hL => by
    have h1 := sq_cons hc (pre_mns hc ht he p) (fun e s => by
      have e2 := List.append_eq_nil_iff.1 e
      obtain rfl : p = 0 := by simpa using e2.1
      constructor
      · rintro ⟨u, v, e3, h1, h2⟩
        have h3 : u = [] := h1
        subst h3
        rw [e3, (he e2.2 v).1 h2]
        rfl
      · rintro rfl
        exact ⟨[], [], rfl, rfl, (he e2.2 []).2 rfl⟩) L a (by simpa [List.replicate_succ] using hL)
    exact h1.iff (fun s => (cat_assoc M (powM M p) N s).symm)
theorem rp_mns {c : Cd} {M : Lg} (hc : Mns c M) (mn : Nat) (mx : Int) (h : mx = -1 ∨ (mn : Int) ≤ mx) : Mns (rp c mn mx) (repM M mn mx) := fun m L a hL => by
  have hL' : Lies L a (sqP (rpL c mn mx m) a m) := hL
  unfold rpL at hL'
  by_cases hm : mx = -1
  · rw [if_pos hm] at hL'
    have ht : MnL (fun a => sqP [lp c] a m) m (star M) := fun L a hL => lp_mns hc m L a hL
    refine (pre_mns hc ht (fun e => by cases e) mn L a hL').iff (fun s => ?_)
    constructor
    · rintro ⟨u, v, e, h1, r, h2⟩
      exact ⟨mn + r, by omega, .inl hm, (powM_add M mn r s).2 ⟨u, v, e, h1, h2⟩⟩
    · rintro ⟨r, h1, _, h2⟩
      obtain ⟨d, rfl⟩ : ∃ d, r = mn + d := ⟨r - mn, by omega⟩
      obtain ⟨u, v, e, h3, h4⟩ := (powM_add M mn d s).1 h2
      exact ⟨u, v, e, h3, d, h4⟩
  · rw [if_neg hm] at hL'
    have h2 : (mn : Int) ≤ mx := by omega
    refine (pre_mns hc (opts_mns hc m (mx.toNat - mn)) (fun e s => ?_) mn L a hL').iff (fun s => ?_)
    · have e0 : mx.toNat - mn = 0 := by simpa using e
      rw [e0]
      constructor
      · rintro ⟨r, hr, h⟩
        obtain rfl : r = 0 := by omega
        exact h
      · rintro rfl
        exact ⟨0, Nat.le_refl _, rfl⟩
    · constructor
      · rintro ⟨u, v, e, h1, r, hr, h3⟩
        exact ⟨mn + r, by omega, .inr (by omega), (powM_add M mn r s).2 ⟨u, v, e, h1, h3⟩⟩
      · rintro ⟨r, h1, h3, h4⟩
        obtain ⟨d, rfl⟩ : ∃ d, r = mn + d := ⟨r - mn, by omega⟩
        obtain ⟨u, v, e, h5, h6⟩ := (powM_add M mn d s).1 h4
        exact ⟨u, v, e, h5, d, by omega, h6⟩
theorem cdN_mns (n : Nd) {l : List Cd} {Ms : List Lg} (h : fitN n l.length) (hl : MnsL l Ms) : Mns (cdN n l) (meN n Ms) := by
  unfold cdN meN
  split
  · exact sgl_mns _
  · split
    · rename_i h4
      obtain ⟨h1, h2⟩ := h.2.1 h4
      cases hl with
      | nil => simp at h1
      | cons hc hr =>
        refine rp_mns hc _ _ ?_
        unfold arT at h2
        simp only [Bool.and_eq_true, Bool.or_eq_true, decide_eq_true_eq] at h2
        omega
    · split
      · exact fun m => ch_mns hl m
      · exact fun m => sq_mns hl m
theorem fo_mns : ∀ f : Fo, f.fit → MnsL f.cds f.mes
  | .nil, _ => .nil
  | .cons n k r, ⟨h1, h2, h3⟩ => .cons (cdN_mns n (by rw [Fo.cds_len]; exact h1) (fo_mns k h2)) (fo_mns r h3)
theorem cdT_mns (t : Tr) (h : fitT t) : Mns (cdT t) (meT t) := cdN_mns t.1 (by rw [Fo.cds_len]; exact h.1) (fo_mns t.2 h.2)
/-- The program of a pattern accepts a text just if the pattern means it. -/
theorem prg_acc (t : Tr) (h : fitT t) (s : List Nat) : Acc ((prg t).put 0 0) 0 s ↔ meT t s := by
  have e := prg_put t
  have hl : Lies ((prg t).put 0 0) 0 ((cdT t).put 0 (cdT t).n ++ [⟨3, noSet, 0, 0⟩]) := fun k i hk => by rw [e, Nat.zero_add]; exact hk
  have hend : ((prg t).put 0 0)[(cdT t).n]? = some ⟨3, noSet, 0, 0⟩ := by
    have := Lies.head (Lies.right hl)
    rwa [(cdT t).len, Nat.zero_add] at this
  have H := cdT_mns t h (cdT t).n _ 0 (Lies.left hl)
  constructor
  · rintro ⟨k, hk⟩
    obtain ⟨u, v, k', rfl, h1, _, h2⟩ := H.snd k s hk
    cases k' with
    | zero =>
      obtain ⟨_, _, _, rfl⟩ := h2
      rw [List.append_nil]; exact h1
    | succ k' =>
      obtain ⟨q, hq, hh⟩ := h2
      rw [hend] at hq; cases hq
      simp at hh
  · intro hs
    have := H.cpl s [] hs ⟨0, _, hend, rfl, rfl⟩
    rwa [List.append_nil] at this

/-- Where one stands, too. -/
inductive Eps (L : List Ins) : Nat → Nat → Prop
  | refl (i : Nat) : Eps L i i
  | goX {i j : Nat} {q : Ins} : Eps L i j → L[j]? = some q → (q.op = 2 ∨ q.op = 4) → Eps L i q.x.toNat
  | goY {i j : Nat} {q : Ins} : Eps L i j → L[j]? = some q → q.op = 2 → Eps L i q.y.toNat
theorem Eps.trans {L : List Ins} {i j k : Nat} (h : Eps L i j) (e : Eps L j k) : Eps L i k := by
  induction e with
  | refl => exact h
  | goX _ h1 h2 ih => exact ih.goX h1 h2
  | goY _ h1 h2 ih => exact ih.goY h1 h2
abbrev Sn := Nat → Prop
/-- A set is closed. -/
def Clsd (L : List Ins) (S : Sn) : Prop := ∀ i q, S i → L[i]? = some q → ((q.op = 2 ∨ q.op = 4) → S q.x.toNat) ∧ (q.op = 2 → S q.y.toNat)
theorem Clsd.eps {L : List Ins} {S : Sn} (h : Clsd L S) {i j : Nat} (hi : S i) (e : Eps L i j) : S j := by
  induction e with
  | refl => exact hi
  | goX _ h1 h2 ih => exact (h _ _ ih h1).1 h2
  | goY _ h1 h2 ih => exact (h _ _ ih h1).2 h2
theorem eps_clsd (L : List Ins) (i : Nat) : Clsd L (Eps L i) := fun j q hj hq => ⟨fun h => hj.goX hq h, fun h => hj.goY hq h⟩
/-- Where a byte leads. -/
def nxt (L : List Ins) (S : Sn) (b : Nat) : Sn := fun j => ∃ i q, S i ∧ L[i]? = some q ∧ q.op = 1 ∧ inS q.s b = true ∧ Eps L q.x.toNat j
theorem nxt_clsd (L : List Ins) (S : Sn) (b : Nat) : Clsd L (nxt L S b) := fun j q ⟨i, p, h1, h2, h3, h4, h5⟩ hq => ⟨fun h => ⟨i, p, h1, h2, h3, h4, h5.goX hq h⟩, fun h => ⟨i, p, h1, h2, h3, h4, h5.goY hq h⟩⟩
def accS (L : List Ins) (S : Sn) : Prop := ∃ i q, S i ∧ L[i]? = some q ∧ q.op = 3
/-- Where a program stands, having read a text. -/
def stn (L : List Ins) (s : List Nat) : Sn := s.foldl (nxt L) (Eps L 0)
theorem stn_snoc (L : List Ins) (s : List Nat) (b : Nat) : stn L (s ++ [b]) = nxt L (stn L s) b := by simp [stn]
theorem stn_clsd (L : List Ins) (s : List Nat) : Clsd L (stn L s) := by
  rcases List.eq_nil_or_concat s with rfl | ⟨p, b, rfl⟩
  · exact eps_clsd L 0
  · rw [List.concat_eq_append, stn_snoc]; exact nxt_clsd _ _ _
theorem acc_eps {L : List Ins} {i j : Nat} {s : List Nat} (e : Eps L i j) (h : Acc L j s) : Acc L i s := by
  induction e with
  | refl => exact h
  | goX _ h1 h2 ih => obtain ⟨k, hk⟩ := h; exact ih ⟨k + 1, _, h1, .inl ⟨h2, hk⟩⟩
  | goY _ h1 h2 ih => obtain ⟨k, hk⟩ := h; exact ih ⟨k + 1, _, h1, .inr (.inl ⟨h2, hk⟩)⟩
theorem acc_byte {L : List Ins} {S : Sn} (hS : Clsd L S) {b : Nat} {s : List Nat} : ∀ k i, S i → AccN L k i (b :: s) → ∃ j, nxt L S b j ∧ Acc L j s
  | 0, i, _, ⟨_, _, _, h⟩ => by cases h
  | k + 1, i, hi, ⟨q, hq, h⟩ => by
    rcases h with ⟨h1, h2⟩ | ⟨h1, h2⟩ | ⟨h1, b', v, e, h2, h3⟩
    · exact acc_byte hS k _ ((hS i q hi hq).1 h1) h2
    · exact acc_byte hS k _ ((hS i q hi hq).2 h1) h2
    · cases e
      exact ⟨q.x.toNat, ⟨i, q, hi, hq, h1, h2, .refl _⟩, k, h3⟩
theorem acc_none {L : List Ins} {S : Sn} (hS : Clsd L S) : ∀ k i, S i → AccN L k i [] → accS L S
  | 0, i, hi, ⟨q, hq, h, _⟩ => ⟨i, q, hi, hq, h⟩
  | k + 1, i, hi, ⟨q, hq, h⟩ => by
    rcases h with ⟨h1, h2⟩ | ⟨h1, h2⟩ | ⟨h1, b', v, e, h2, h3⟩
    · exact acc_none hS k _ ((hS i q hi hq).1 h1) h2
    · exact acc_none hS k _ ((hS i q hi hq).2 h1) h2
    · cases e
theorem accS_fold (L : List Ins) : ∀ (s : List Nat) (S : Sn), Clsd L S → (accS L (s.foldl (nxt L) S) ↔ ∃ i, S i ∧ Acc L i s)
  | [], S, hS => ⟨fun ⟨i, q, h1, h2, h3⟩ => ⟨i, h1, 0, q, h2, h3, rfl⟩, fun ⟨i, hi, k, hk⟩ => acc_none hS k i hi hk⟩
  | b :: s, S, hS => by
    rw [List.foldl_cons, accS_fold L s _ (nxt_clsd L S b)]
    constructor
    · rintro ⟨j, ⟨i, q, h1, h2, h3, h4, h5⟩, hj⟩
      obtain ⟨k, hk⟩ := acc_eps h5 hj
      exact ⟨i, h1, k + 1, q, h2, .inr (.inr ⟨h3, b, s, rfl, h4, hk⟩)⟩
    · rintro ⟨i, hi, k, hk⟩
      exact acc_byte hS k i hi hk
theorem stn_acc (L : List Ins) (s : List Nat) : accS L (stn L s) ↔ Acc L 0 s := by
  unfold stn
  rw [accS_fold L s _ (eps_clsd L 0)]
  exact ⟨fun ⟨i, hi, h⟩ => acc_eps hi h, fun h => ⟨0, .refl 0, h⟩⟩
/-- Nowhere stays nowhere. -/
theorem nxt_dead {L : List Ins} {S : Sn} (h : ∀ j, ¬ S j) (b : Nat) : ∀ j, ¬ nxt L S b j := fun j ⟨i, _, h1, _⟩ => h i h1
theorem fold_dead {L : List Ins} : ∀ (s : List Nat) (S : Sn), (∀ j, ¬ S j) → ∀ j, ¬ s.foldl (nxt L) S j
  | [], S, h => h
  | b :: s, S, h => fold_dead s _ (nxt_dead h b)
end Go.Proofs.YtkfdikpnnkbgaaaGreatDoor
