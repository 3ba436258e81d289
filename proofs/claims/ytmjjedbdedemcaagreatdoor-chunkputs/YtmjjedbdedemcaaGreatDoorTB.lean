/-
  The mathematics of chunks: what the bits of samples are, and what is read of bits.
-/
import Derived.Test.YtmjjedbdedemcaaGreatDoorTA
import Derived.Test.YtmjjedbdedemcaaGreatDoorXA
namespace Go.Proofs.YtmjjedbdedemcaaGreatDoor
open Go.RowKit
set_option linter.unusedVariables false
set_option linter.unusedSimpArgs false

/-- How far the times and the values of a chunk have come. -/
structure Z where
  n : Nat
  L : Nat
  D : Nat
  U : Nat
  a : Nat
  b : Nat
/-- A sample whose time may be one. -/
abbrev Sm := Nat × Nat
def z0 : Z := ⟨0, 0, 0, 0, 64, 0⟩
def nxt (z : Z) (s : Sm) : Z := ⟨z.n + 1, s.1, dl z.n z.L s.1, s.2, cA z.n z.U z.a z.b s.2, cB z.n z.U z.a z.b s.2⟩
def kT (z : Z) (s : Sm) : Nat := cdN z.n z.L z.D s.1
def kV (z : Z) (s : Sm) : Nat := cN z.n z.U z.a z.b s.2
def kN (z : Z) (s : Sm) : Nat := kT z s + kV z s
def kX (z : Z) (s : Sm) : Nat := cdX z.n z.L z.D s.1 * 2 ^ kV z s + cX z.n z.U z.a z.b s.2
structure OkZ (z : Z) : Prop where
  s : OkS z.n z.L z.D
  x : OkSX z.n z.a z.b
  u : z.U < 18446744073709551616
structure OkN (z : Z) (s : Sm) : Prop where
  t : OkT z.n z.L (s.1 : Int)
  v : s.2 < 18446744073709551616
theorem ok_z0 : OkZ z0 := ⟨⟨by decide, by decide, by decide⟩, ⟨by decide, .inl ⟨rfl, rfl⟩⟩, by decide⟩
theorem OkZ.next {z : Z} {s : Sm} (h : OkZ z) (k : OkN z s) (hn : z.n < 4096) : OkZ (nxt z s) :=
  ⟨ok_next h.s k.t hn, ok_nextX h.x h.u k.v hn, k.v⟩
theorem OkN.t_le {z : Z} {s : Sm} (h : OkN z s) : s.1 ≤ 35184372088832 := by have := h.t.le; omega
theorem kT_le (z : Z) (s : Sm) : kT z s ≤ 52 := cdN_le _ _ _ _
theorem kV_le {z : Z} {s : Sm} (h : OkZ z) (k : OkN z s) : kV z s ≤ 78 := cN_le h.x h.u k.v
theorem kN_le {z : Z} {s : Sm} (h : OkZ z) (k : OkN z s) : kN z s ≤ 130 := by have := kT_le z s; have := kV_le h k; unfold kN; omega
theorem kX_lt {z : Z} {s : Sm} (h : OkZ z) (k : OkN z s) : kX z s < 2 ^ kN z s := code_lt (cdX_lt h.s k.t_le) (cX_lt h.x h.u k.v)

def fin (z : Z) (l : List Sm) : Z := l.foldl nxt z
def eN : Z → List Sm → Nat
  | _, [] => 0
  | z, s :: r => kN z s + eN (nxt z s) r
def eX : Z → List Sm → Nat
  | _, [] => 0
  | z, s :: r => kX z s * 2 ^ eN (nxt z s) r + eX (nxt z s) r
/-- Each sample of the list may stand behind those ahead of it. -/
def OkL : Z → List Sm → Prop
  | _, [] => True
  | z, s :: r => OkN z s ∧ OkL (nxt z s) r
theorem fin_snoc (z : Z) (l : List Sm) (s : Sm) : fin z (l ++ [s]) = nxt (fin z l) s := by simp [fin]
theorem fin_n (l : List Sm) : ∀ z, (fin z l).n = z.n + l.length := by
  induction l with
  | nil => intro z; rfl
  | cons s r ih => intro z; show (fin (nxt z s) r).n = _; rw [ih]; simp [nxt]; omega
theorem eN_snoc (l : List Sm) (s : Sm) : ∀ z, eN z (l ++ [s]) = eN z l + kN (fin z l) s := by
  induction l with
  | nil => intro z; simp [eN, fin]
  | cons t r ih => intro z; simp only [List.cons_append, eN, ih]; rw [show fin z (t :: r) = fin (nxt z t) r from rfl]; omega
theorem eX_snoc (l : List Sm) (s : Sm) : ∀ z, eX z (l ++ [s]) = eX z l * 2 ^ kN (fin z l) s + kX (fin z l) s := by
  induction l with
  | nil => intro z; simp [eX, eN, fin]
  | cons t r ih =>
    intro z
    simp only [List.cons_append, eX, ih, eN_snoc]
    rw [show fin z (t :: r) = fin (nxt z t) r from rfl, Nat.pow_add, Nat.add_mul, Nat.mul_assoc, Nat.add_assoc]
theorem okL_snoc (l : List Sm) (s : Sm) : ∀ z, OkL z (l ++ [s]) ↔ OkL z l ∧ OkN (fin z l) s := by
  induction l with
  | nil => intro z; simp [OkL, fin]
  | cons t r ih => intro z; simp only [List.cons_append, OkL, ih, and_assoc]; rfl
theorem okL_take (l : List Sm) : ∀ z k, OkL z l → OkL z (l.take k) := by
  induction l with
  | nil => intro z k h; simpa using h
  | cons t r ih =>
    intro z k h
    cases k with
    | zero => simp [OkL]
    | succ k => exact ⟨h.1, ih _ k h.2⟩
theorem okL_v64 (l : List Sm) : ∀ z, OkL z l → ∀ s ∈ l, s.2 < 18446744073709551616 := by
  induction l with
  | nil => intro z _ s hs; cases hs
  | cons t r ih =>
    intro z h s hs
    rcases List.mem_cons.1 hs with rfl | hs
    · exact h.1.v
    · exact ih _ h.2 s hs
theorem ok_fin (l : List Sm) : ∀ z, OkZ z → OkL z l → z.n + l.length ≤ 4096 → OkZ (fin z l) := by
  induction l with
  | nil => intro z h _ _; exact h
  | cons s r ih =>
    intro z h k hn
    simp only [List.length_cons] at hn
    exact ih (nxt z s) (h.next k.1 (by omega)) k.2 (by simp [nxt]; omega)
theorem eN_le (l : List Sm) : ∀ z, OkZ z → OkL z l → z.n + l.length ≤ 4096 → eN z l ≤ 130 * l.length := by
  induction l with
  | nil => intro z _ _ _; simp [eN]
  | cons s r ih =>
    intro z h k hn
    simp only [List.length_cons] at hn
    have := kN_le h k.1
    have := ih (nxt z s) (h.next k.1 (by omega)) k.2 (by simp [nxt]; omega)
    simp only [eN, List.length_cons]
    omega
theorem eX_lt (l : List Sm) : ∀ z, OkZ z → OkL z l → z.n + l.length ≤ 4096 → eX z l < 2 ^ eN z l := by
  induction l with
  | nil => intro z _ _ _; simp [eX, eN]
  | cons s r ih =>
    intro z h k hn
    simp only [List.length_cons] at hn
    exact code_lt (kX_lt h k.1) (ih (nxt z s) (h.next k.1 (by omega)) k.2 (by simp [nxt]; omega))

/-- One sample, read. -/
def rd1 (z : Z) (V N m : Nat) : Option (Sm × Nat) :=
  match gtm z.n z.L z.D V N m with
  | (0, t, k) => match gX z.n z.U z.a z.b V N (m + k) with
    | some (v, j, _, _) => some ((t, v), m + k + j)
    | none => none
  | _ => none
/-- So many samples, read. -/
def rdS : Nat → Z → Nat → Nat → Nat → Option (List Sm × Nat)
  | 0, _, _, _, m => some ([], m)
  | k + 1, z, V, N, m => match rd1 z V N m with
    | none => none
    | some (s, m') => match rdS k (nxt z s) V N m' with
      | none => none
      | some (l, p) => some (s :: l, p)
theorem rd1_ok {z : Z} {V N m m' : Nat} {s : Sm} (h : OkZ z) (e : rd1 z V N m = some (s, m')) : OkN z s ∧ m' = m + kN z s ∧ m' ≤ 8 * N ∧ rd V N m (kN z s) = kX z s := by
  unfold rd1 at e
  split at e
  · rename_i t k ht
    split at e
    · rename_i v j a' b' hv
      simp only [Option.some.injEq, Prod.mk.injEq] at e
      obtain ⟨rfl, rfl⟩ := e
      obtain ⟨t1, t2, t3, t4⟩ := gtm_ok ht
      obtain ⟨v1, v2, v3, v4, v5, v6⟩ := gX_ok h.x.w h.u hv
      refine ⟨⟨t1, v1⟩, by unfold kN kT kV; simp only; omega, by omega, ?_⟩
      unfold kN
      rw [rd_more V N m (kT z (t, v)) (kV z (t, v)) (by unfold kT kV; simp only; omega)]
      unfold kX
      simp only [kT, kV]
      rw [← t2, t4, ← v2, v6]
    · cases e
  · cases e
theorem rd1_of {z : Z} {V N m : Nat} {s : Sm} (h : OkZ z) (k : OkN z s) (hm : m + kN z s ≤ 8 * N) (e : rd V N m (kN z s) = kX z s) : rd1 z V N m = some (s, m + kN z s) := by
  obtain ⟨t, v⟩ := s
  unfold kN at hm e
  rw [rd_more V N m _ _ (by omega)] at e
  obtain ⟨e1, e2⟩ := two_parts (rd_lt _ _ _ _) (cX_lt h.x h.u k.v) e
  have ht := gtm_of h.s k.t (by have := hm; unfold kT at this; simp only at this ⊢; omega) e1
  have hv := gX_of (p := m + kT z (t, v)) h.x.w h.u k.v (by simpa [Nat.add_assoc, kV] using hm) e2
  unfold rd1
  rw [ht]
  simp only
  rw [show m + cdN z.n z.L z.D t = m + kT z (t, v) from rfl, hv]
  simp only [kN, kV, Nat.add_assoc]
theorem rdS_ok (n : Nat) : ∀ z V N m l p, OkZ z → z.n + n ≤ 4096 → m ≤ 8 * N → rdS n z V N m = some (l, p) → l.length = n ∧ OkL z l ∧ p = m + eN z l ∧ p ≤ 8 * N ∧ rd V N m (eN z l) = eX z l := by
  induction n with
  | zero =>
    intro z V N m l p _ _ hm e
    simp only [rdS, Option.some.injEq, Prod.mk.injEq] at e
    obtain ⟨rfl, rfl⟩ := e
    exact ⟨rfl, trivial, rfl, hm, by simp [eN, eX, rd_zero]⟩
  | succ n ih =>
    intro z V N m l p h hn hm e
    simp only [rdS] at e
    split at e
    · cases e
    · rename_i s m' h1
      split at e
      · cases e
      · rename_i l' p' h2
        simp only [Option.some.injEq, Prod.mk.injEq] at e
        obtain ⟨rfl, rfl⟩ := e
        obtain ⟨k1, k2, k3, k4⟩ := rd1_ok h h1
        obtain ⟨r1, r2, r3, r4, r5⟩ := ih (nxt z s) V N m' l' p' (h.next k1 (by omega)) (by simp [nxt]; omega) k3 h2
        refine ⟨by simp [r1], ⟨k1, r2⟩, by simp only [eN]; omega, r4, ?_⟩
        simp only [eN, eX]
        rw [rd_more V N m _ _ (by omega), k4, ← k2, r5]
theorem rdS_of (l : List Sm) : ∀ z V N m, OkZ z → OkL z l → z.n + l.length ≤ 4096 → m + eN z l ≤ 8 * N → rd V N m (eN z l) = eX z l → rdS l.length z V N m = some (l, m + eN z l) := by
  induction l with
  | nil => intro z V N m _ _ _ _ _; rfl
  | cons s r ih =>
    intro z V N m h k hn hm e
    simp only [List.length_cons] at hn
    simp only [eN, eX] at hm e
    have hz := h.next k.1 (by omega)
    have hr := eX_lt r (nxt z s) hz k.2 (by simp [nxt]; omega)
    rw [rd_more V N m _ _ (by omega)] at e
    obtain ⟨e1, e2⟩ := two_parts (rd_lt _ _ _ _) hr e
    have h1 := rd1_of h k.1 (by omega) e1
    have h2 := ih (nxt z s) V N (m + kN z s) hz k.2 (by simp [nxt]; omega) (by omega) e2
    simp only [List.length_cons, rdS, h1, h2, eN, Nat.add_assoc]
end Go.Proofs.YtmjjedbdedemcaaGreatDoor
