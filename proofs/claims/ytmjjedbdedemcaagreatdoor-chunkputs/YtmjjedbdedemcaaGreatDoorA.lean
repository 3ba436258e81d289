/-
  Numbers of bits; what it means that a slice has certain bytes; small functions of bits.
-/
import Derived.WalkKit
import Derived.Test.YtmjjedbdedemcaaGreatDoorChecked
import Derived.WalkLawsBesides
import Derived.Laws.BitsAllLaws
import Derived.Laws.CopyOwn
import Derived.Laws.AppendOwnNone
import Derived.BigQuiet
import Derived.Laws.OwnMore
namespace Go.Proofs.YtmjjedbdedemcaaGreatDoor
open Go.RowKit
set_option linter.unusedVariables false

/-- The number that bytes are, the first one the highest. -/
def num (l : List Int) : Nat := l.foldl (fun a b => a * 256 + b.toNat) 0

theorem num_nil : num [] = 0 := rfl
theorem num_snoc (l : List Int) (b : Int) : num (l ++ [b]) = num l * 256 + b.toNat := by simp [num, List.foldl_append]

theorem snoc_ind {P : List Int → Prop} (h0 : P []) (h1 : ∀ l b, P l → P (l ++ [b])) : ∀ l, P l := by
  intro l
  have : ∀ n (l : List Int), l.length = n → P l := by
    intro n
    induction n with
    | zero => intro l h; obtain rfl := List.eq_nil_of_length_eq_zero h; exact h0
    | succ n ih =>
      intro l h
      rcases List.eq_nil_or_concat l with rfl | ⟨m, b, rfl⟩
      · simp at h
      · rw [List.concat_eq_append] at h ⊢
        exact h1 _ _ (ih m (by simpa using h))
  exact this _ l rfl

theorem num_lt (l : List Int) (h : ∀ x ∈ l, 0 ≤ x ∧ x ≤ 255) : num l < 256 ^ l.length := by
  revert h
  refine snoc_ind (P := fun l => (∀ x ∈ l, 0 ≤ x ∧ x ≤ 255) → num l < 256 ^ l.length) ?_ ?_ l
  · intro _; simp [num]
  · intro l b ih h
    have h1 := ih (fun x hx => h x (by simp [hx]))
    have h2 := h b (by simp)
    rw [num_snoc, List.length_append, List.length_singleton, Nat.pow_succ]
    omega

theorem num_inj (l : List Int) : ∀ m : List Int, l.length = m.length → (∀ x ∈ l, 0 ≤ x ∧ x ≤ 255) → (∀ x ∈ m, 0 ≤ x ∧ x ≤ 255) → num l = num m → l = m := by
  refine snoc_ind (P := fun l => ∀ m : List Int, l.length = m.length → (∀ x ∈ l, 0 ≤ x ∧ x ≤ 255) → (∀ x ∈ m, 0 ≤ x ∧ x ≤ 255) → num l = num m → l = m) ?_ ?_ l
  · intro m h _ _ _; exact (List.eq_nil_of_length_eq_zero h.symm).symm
  · intro l b ih m h hl hm he
    rcases List.eq_nil_or_concat m with rfl | ⟨m, c, rfl⟩
    · simp at h
    · rw [List.concat_eq_append] at h hm he ⊢
      have h2 := hl b (by simp)
      have h3 := hm c (by simp)
      rw [num_snoc, num_snoc] at he
      have e1 : num l = num m := by omega
      have e2 : b = c := by omega
      rw [ih m (by simpa using h) (fun x hx => hl x (by simp [hx])) (fun x hx => hm x (by simp [hx])) e1, e2]

theorem num_get (l : List Int) : ∀ j, j < l.length → (∀ x ∈ l, 0 ≤ x ∧ x ≤ 255) → (l.getD j 0).toNat = num l / 256 ^ (l.length - 1 - j) % 256 := by
  refine snoc_ind (P := fun l => ∀ j, j < l.length → (∀ x ∈ l, 0 ≤ x ∧ x ≤ 255) → (l.getD j 0).toNat = num l / 256 ^ (l.length - 1 - j) % 256) ?_ ?_ l
  · intro j h; simp at h
  · intro l b ih j h hl
    have h2 := hl b (by simp)
    rw [List.length_append, List.length_singleton] at h ⊢
    rw [num_snoc]
    by_cases hj : j = l.length
    · subst hj
      rw [show l.length + 1 - 1 - l.length = 0 by omega]
      simp [List.getD]
      omega
    · have := ih j (by omega) (fun x hx => hl x (by simp [hx]))
      rw [show l.length + 1 - 1 - j = (l.length - 1 - j) + 1 by omega, Nat.pow_succ, Nat.mul_comm (256 ^ (l.length - 1 - j)) 256, ← Nat.div_div_eq_div_mul, show (num l * 256 + b.toNat) / 256 = num l by omega, ← this]
      simp [List.getD, List.getElem?_append_left (show j < l.length by omega)]

theorem num_set (l : List Int) : ∀ j c, j < l.length → num (l.set j c) + (l.getD j 0).toNat * 256 ^ (l.length - 1 - j) = num l + c.toNat * 256 ^ (l.length - 1 - j) := by
  refine snoc_ind (P := fun l => ∀ j c, j < l.length → num (l.set j c) + (l.getD j 0).toNat * 256 ^ (l.length - 1 - j) = num l + c.toNat * 256 ^ (l.length - 1 - j)) ?_ ?_ l
  · intro j c h; simp at h
  · intro l b ih j c h
    rw [List.length_append, List.length_singleton] at h ⊢
    by_cases hj : j = l.length
    · subst hj
      rw [show l.length + 1 - 1 - l.length = 0 by omega]
      simp [List.getD, num_snoc]
      omega
    · have := ih j c (by omega)
      rw [List.set_append_left _ _ (by omega), num_snoc, num_snoc, show l.length + 1 - 1 - j = (l.length - 1 - j) + 1 by omega, Nat.pow_succ]
      have e : (l ++ [b]).getD j 0 = l.getD j 0 := by simp [List.getD, List.getElem?_append_left (show j < l.length by omega)]
      rw [e, ← Nat.mul_assoc, ← Nat.mul_assoc]
      omega

theorem pow256 (k : Nat) : 256 ^ k = 2 ^ (8 * k) := by rw [Nat.pow_mul]

theorem modsplit (m k s : Nat) : m % 2 ^ (k + s) = (m / 2 ^ s % 2 ^ k) * 2 ^ s + m % 2 ^ s := by
  rw [Nat.add_comm k s, Nat.pow_add, Nat.mod_mul, Nat.mul_comm, Nat.add_comm]

theorem or_add (a b s : Nat) (h : b < 2 ^ s) : a * 2 ^ s ||| b = a * 2 ^ s + b := by
  rw [Nat.mul_comm, Nat.two_pow_add_eq_or_of_lt h]

/-- The number that n bits from the place p on are, among the 8 N bits of V. -/
def rd (V N p n : Nat) : Nat := V / 2 ^ (8 * N - p - n) % 2 ^ n
theorem rd_lt (V N p n : Nat) : rd V N p n < 2 ^ n := Nat.mod_lt _ (Nat.two_pow_pos _)
theorem rd_zero (V N p : Nat) : rd V N p 0 = 0 := by simp [rd, Nat.mod_one]
theorem rd_more (V N p k s : Nat) (h : p + k + s ≤ 8 * N) : rd V N p (k + s) = rd V N p k * 2 ^ s + rd V N (p + k) s := by
  unfold rd
  rw [modsplit, Nat.div_div_eq_div_mul, ← Nat.pow_add, show 8 * N - p - (k + s) + s = 8 * N - p - k by omega, show 8 * N - p - (k + s) = 8 * N - (p + k) - s by omega]

/-- What a byte has of it. -/
theorem rd_byte (l : List Int) (hl : ∀ x ∈ l, 0 ≤ x ∧ x ≤ 255) (q s b : Nat) (hq : q < 8 * l.length) (hb : q % 8 + s + b = 8) :
    (l.getD (q / 8) 0).toNat / 2 ^ b % 2 ^ s = rd (num l) l.length q s := by
  rw [num_get l (q / 8) (by omega) hl, pow256]
  unfold rd
  rw [show (256 : Nat) = 2 ^ 8 by rfl, show 8 = (8 - b) + b by omega, modsplit, Nat.mul_comm, Nat.mul_add_div (Nat.two_pow_pos b), Nat.div_eq_of_lt (Nat.mod_lt _ (Nat.two_pow_pos b)), Nat.add_zero, show (8 - b) + b = 8 by omega]
  rw [Nat.div_div_eq_div_mul, ← Nat.pow_add, Nat.mod_mod_of_dvd _ (Nat.pow_dvd_pow 2 (by omega)), show 8 * (l.length - 1 - q / 8) + b = 8 * l.length - q - s by omega]

/-- Bytes that have n bits, which are the number A; the others are 0. -/
structure Holds (l : List Int) (A n : Nat) : Prop where
  bytes : ∀ x ∈ l, 0 ≤ x ∧ x ≤ 255
  lo : n ≤ 8 * l.length
  hi : 8 * l.length < n + 8
  num : num l = A * 2 ^ (8 * l.length - n)
  lt : A < 2 ^ n

theorem holds_nil : Holds [] 0 0 := ⟨by simp, by simp, by simp, by simp [num], by simp⟩
theorem Holds.same {l m : List Int} {A n : Nat} (h : Holds l A n) (k : Holds m A n) : l = m := by
  have h1 := h.lo; have h2 := h.hi; have h3 := k.lo; have h4 := k.hi
  have e : l.length = m.length := by omega
  exact num_inj l m e h.bytes k.bytes (by rw [h.num, k.num, e])
/-- A byte more. -/
theorem more_num {l : List Int} {A n : Nat} (h : Holds l A n) (hn : 8 * l.length = n) : Go.Proofs.YtmjjedbdedemcaaGreatDoor.num (l ++ [0]) = A * 2 ^ (8 * (l ++ [0]).length - n) := by
  rw [num_snoc, h.num, List.length_append, List.length_singleton, show 8 * l.length - n = 0 by omega, show 8 * (l.length + 1) - n = 8 by omega]
  simp

/-- A piece is put into the last byte. -/
theorem piece_put {l : List Int} {A n x r s b : Nat} (hl : ∀ x ∈ l, 0 ≤ x ∧ x ≤ 255) (hA : A < 2 ^ n) (hnum : num l = A * 2 ^ (8 * l.length - n)) (hs1 : 1 ≤ s) (hN : 8 * l.length = n + s + b) (hr : n % 8 + s + b = 8) :
    ∃ c : Nat, c = (l.getD (n / 8) 0).toNat ||| ((x / 2 ^ r) % 2 ^ s * 2 ^ b) ∧ c ≤ 255 ∧ Holds (l.set (n / 8) (c : Int)) (A * 2 ^ s + (x / 2 ^ r) % 2 ^ s) (n + s) := by
  have hj : n / 8 = l.length - 1 := by omega
  have hy : (x / 2 ^ r) % 2 ^ s < 2 ^ s := Nat.mod_lt _ (Nat.two_pow_pos s)
  generalize (x / 2 ^ r) % 2 ^ s = y at hy ⊢
  have hsb : y * 2 ^ b < 2 ^ (s + b) := by rw [Nat.pow_add]; exact (Nat.mul_lt_mul_right (Nat.two_pow_pos b)).2 hy
  have hg := num_get l (n / 8) (by omega) hl
  rw [show l.length - 1 - n / 8 = 0 by omega, Nat.pow_zero, Nat.div_one, hnum, show 8 * l.length - n = s + b by omega] at hg
  have e8 : (256 : Nat) = 2 ^ (8 - (s + b)) * 2 ^ (s + b) := by rw [← Nat.pow_add, show 8 - (s + b) + (s + b) = 8 by omega]
  rw [e8, Nat.mul_mod_mul_right] at hg
  have hT : A % 2 ^ (8 - (s + b)) < 2 ^ (8 - (s + b)) := Nat.mod_lt _ (Nat.two_pow_pos _)
  generalize A % 2 ^ (8 - (s + b)) = T at hg hT
  refine ⟨_, rfl, ?_, ?_⟩
  · rw [hg, or_add _ _ _ hsb]
    have : T * 2 ^ (s + b) + y * 2 ^ b < 256 := by
      rw [e8]
      calc T * 2 ^ (s + b) + y * 2 ^ b < T * 2 ^ (s + b) + 2 ^ (s + b) := by omega
        _ = (T + 1) * 2 ^ (s + b) := by rw [Nat.add_mul, Nat.one_mul]
        _ ≤ 2 ^ (8 - (s + b)) * 2 ^ (s + b) := Nat.mul_le_mul_right _ hT
    omega
  · have hc : (l.getD (n / 8) 0).toNat ||| y * 2 ^ b = (l.getD (n / 8) 0).toNat + y * 2 ^ b := by rw [hg, or_add _ _ _ hsb]
    have hc1 : (l.getD (n / 8) 0).toNat + y * 2 ^ b < 256 := by
      rw [hg, e8]
      calc T * 2 ^ (s + b) + y * 2 ^ b < T * 2 ^ (s + b) + 2 ^ (s + b) := by omega
        _ = (T + 1) * 2 ^ (s + b) := by rw [Nat.add_mul, Nat.one_mul]
        _ ≤ 2 ^ (8 - (s + b)) * 2 ^ (s + b) := Nat.mul_le_mul_right _ hT
    rw [hc]
    have hs := num_set l (n / 8) (((l.getD (n / 8) 0).toNat + y * 2 ^ b : Nat) : Int) (by omega)
    rw [show l.length - 1 - n / 8 = 0 by omega, Nat.pow_zero, Nat.mul_one, Nat.mul_one, Int.toNat_natCast, hnum] at hs
    refine ⟨?_, ?_, ?_, ?_, ?_⟩
    · intro z hz
      rcases List.mem_or_eq_of_mem_set hz with h | h
      · exact hl z h
      · omega
    · rw [List.length_set]; omega
    · rw [List.length_set]; omega
    · rw [List.length_set, show 8 * l.length - (n + s) = b by omega]
      rw [show 8 * l.length - n = s + b by omega, Nat.pow_add, ← Nat.mul_assoc] at hs
      rw [Nat.add_mul]
      omega
    · rw [Nat.pow_add]
      calc A * 2 ^ s + y < A * 2 ^ s + 2 ^ s := by omega
        _ = (A + 1) * 2 ^ s := by rw [Nat.add_mul, Nat.one_mul]
        _ ≤ 2 ^ n * 2 ^ s := Nat.mul_le_mul_right _ hA

/-- How far a number has been put: r of its n bits are left. -/
def part (A x n r : Nat) : Nat := A * 2 ^ (n - r) + x / 2 ^ r % 2 ^ (n - r)
theorem part_all (A x n : Nat) : part A x n n = A := by simp [part, Nat.mod_one]
theorem part_none (A x n : Nat) : part A x n 0 = A * 2 ^ n + x % 2 ^ n := by simp [part]
theorem part_next (A x n r s : Nat) (h : r + s ≤ n) : part A x n (r + s) * 2 ^ s + x / 2 ^ r % 2 ^ s = part A x n r := by
  unfold part
  rw [show n - r = (n - (r + s)) + s by omega, modsplit (x / 2 ^ r), Nat.div_div_eq_div_mul, ← Nat.pow_add, Nat.pow_add 2 (n - (r + s)) s, Nat.add_mul, Nat.mul_assoc, Nat.add_assoc]

theorem rd_of_holds {A n p k N : Nat} (hn : n ≤ 8 * N) (h : p + k ≤ n) : rd (A * 2 ^ (8 * N - n)) N p k = A / 2 ^ (n - p - k) % 2 ^ k := by
  unfold rd
  rw [show 8 * N - p - k = (8 * N - n) + (n - p - k) by omega, Nat.pow_add, ← Nat.div_div_eq_div_mul, Nat.mul_div_cancel _ (Nat.two_pow_pos _)]
theorem hide {p : Prop} (h : p) : Hid p := h
theorem w64 (n : Int) (h : -9223372036854775808 ≤ n ∧ n ≤ 9223372036854775807) : wrap64 n = n := by unfold wrap64; omega

/-- In the world w the slice (a, len, cap) has the bytes l. -/
structure Has (w : World) (a : Option Addr) (len cap : Nat) (l : List Int) : Prop where
  hlen : l.length = len
  le : len ≤ cap
  capb : cap ≤ maxLen
  nil : a = none → cap = 0
  cells : 0 < len → ∃ b off, a = some ⟨b, off, none⟩ ∧ b < w.heap.size ∧ ∀ i, i < len → w.cell? ⟨b, off + i, none⟩ = some (.int .u8 (l.getD i 0))
  bytes : ∀ x ∈ l, 0 ≤ x ∧ x ≤ 255

/-- The call has ended with a slice in memory that has the bytes l, and nothing that was there has turned. -/
def Ret (w : World) (l : List Int) (e : Ending) (w' : World) : Prop :=
  ∃ a n cap, e = .returned (.slice a n cap) ∧ Has w' a n cap l ∧ Below w.heap.size w w' ∧ w'.ownsRow w.heap.size 5 1 (.slice a n cap) n (l.map (Value.int .u8))

theorem Has.kept {w w' : World} {a : Option Addr} {len cap : Nat} {l : List Int} {B : Nat} (h : Has w a len cap l) (hb : Below B w w') (hB : w.heap.size ≤ B) : Has w' a len cap l := by
  refine ⟨h.hlen, h.le, h.capb, h.nil, fun hp => ?_, h.bytes⟩
  obtain ⟨b, off, e1, e2, e3⟩ := h.cells hp
  exact ⟨b, off, e1, Nat.lt_of_lt_of_le e2 hb.size, fun i hi => (hb.cell (p := ⟨b, off + i, none⟩) (Nat.lt_of_lt_of_le e2 hB)).trans (e3 i hi)⟩

theorem has_nil (w : World) : Has w none 0 0 [] := ⟨rfl, Nat.le_refl _, Nat.zero_le _, fun _ => rfl, fun h => by omega, fun x hx => by simp at hx⟩

theorem add_plain (b off j : Nat) : (⟨b, off, none⟩ : Addr).add j = ⟨b, off + j, none⟩ := by unfold Addr.add; split <;> simp_all

/-- An owned row of bytes has them. -/
theorem has_of_owns {w : World} {base : Nat} {v : Value} {n : Nat} {l : List Int} (h : w.ownsRow base 5 1 v n (l.map (Value.int .u8))) (hl : ∀ x ∈ l, 0 ≤ x ∧ x ≤ 255) :
    ∃ a cap, v = .slice a n cap ∧ Has w a n cap l := by
  have hlen : l.length = n := by simpa using h.1
  rcases h.2 with ⟨rfl, rfl⟩ | ⟨g, cap, cur, rfl, hbg, hg, hnc, hcm, hcs, htake⟩
  · exact ⟨none, 0, rfl, hlen, Nat.le_refl _, Nat.zero_le _, fun _ => rfl, fun h => by omega, hl⟩
  · refine ⟨some ⟨g, 0, none⟩, cap, rfl, hlen, hnc, hcm, (fun h => by cases h), fun hp => ⟨g, 0, rfl, ?_, fun i hi => ?_⟩, hl⟩
    · exact (Array.getElem?_eq_some_iff.1 hg).1
    · have := h.cells (g := g) rfl i (.int .u8 (l.getD i 0)) (by
        have hi' : i < l.length := by omega
        simp [List.getD, List.getElem?_eq_getElem hi'])
      rwa [add_plain] at this

theorem cells_of_has {w : World} {a : Option Addr} {len cap : Nat} {l : List Int} (h : Has w a len cap l) (hp : 0 < len) :
    ∃ b off, a = some ⟨b, off, none⟩ ∧ b < w.heap.size ∧ ∀ j u, (l.map (Value.int .u8))[j]? = some u → w.cell? ((⟨b, off, none⟩ : Addr).add j) = some u := by
  obtain ⟨b, off, e1, e2, e3⟩ := h.cells hp
  refine ⟨b, off, e1, e2, fun j u hj => ?_⟩
  have hjl : j < l.length := by
    rcases Nat.lt_or_ge j l.length with h | h
    · exact h
    · rw [List.getElem?_eq_none (by simpa using h)] at hj; cases hj
  rw [List.getElem?_map, List.getElem?_eq_getElem hjl] at hj
  simp only [Option.map_some, Option.some.injEq] at hj
  subst hj
  have := e3 j (by have := h.hlen; omega)
  rw [add_plain]
  simpa [List.getD, List.getElem?_eq_getElem hjl] using this

/-- A front of a slice. -/
theorem Has.front {w : World} {a : Option Addr} {len cap : Nat} {l : List Int} (h : Has w a len cap l) (k : Nat) (hk : k ≤ len) : Has w a k cap (l.take k) := by
  have hl := h.hlen
  refine ⟨by simp; omega, Nat.le_trans hk h.le, h.capb, h.nil, fun hp => ?_, fun x hx => h.bytes x (List.mem_of_mem_take hx)⟩
  obtain ⟨b, off, e1, e2, e3⟩ := h.cells (by omega)
  refine ⟨b, off, e1, e2, fun i hi => ?_⟩
  rw [e3 i (by omega)]
  simp [List.getD, hi]

theorem info5 : (Tryz.prog.info? 5).map (fun i => (i.zero, i.size, i.bytes)) = some (some (.int .u8 0), 1, 1) := by kernel_rfl

/-- 'string(b)' of a slice that has the bytes l. -/
theorem run_string {w : World} {a : Option Addr} {len cap : Nat} {l : List Int} (h : Has w a len cap l) :
    (convert 24 9 (.slice a len cap)).run Tryz.prog w = .ok (.string (strOfNums l)) w := by
  by_cases hp : 0 < len
  · obtain ⟨b, off, rfl, e2, e3⟩ := h.cells hp
    exact run_convert_bytes_arg w 24 5 Tryz.underlying24 Tryz.underlying5 b off len cap l h.hlen e3 9 Tryz.underlying9
  · have h0 : len = 0 := by omega
    subst h0
    have hl : l = [] := List.eq_nil_of_length_eq_zero h.hlen
    subst hl
    rw [run_convert_bytes_string w 24 9 5 _ 0 cap Tryz.underlying24 Tryz.underlying5 Tryz.underlying9]
    cases a <;> simp [Conv.bytesToString, loadCells]
    all_goals rfl

theorem strOfNums_inj {l m : List Int} (hl : ∀ x ∈ l, 0 ≤ x ∧ x ≤ 255) (hm : ∀ x ∈ m, 0 ≤ x ∧ x ≤ 255) : strOfNums l = strOfNums m ↔ l = m := by
  constructor
  · intro h
    have h1 : l.map (fun n => UInt8.ofNat n.toNat) = m.map (fun n => UInt8.ofNat n.toNat) := by
      have := congrArg (fun b : ByteArray => b.data.toList) h
      simpa [strOfNums] using this
    have key : ∀ (l m : List Int), (∀ x ∈ l, 0 ≤ x ∧ x ≤ 255) → (∀ x ∈ m, 0 ≤ x ∧ x ≤ 255) → l.map (fun n => UInt8.ofNat n.toNat) = m.map (fun n => UInt8.ofNat n.toNat) → l = m := by
      intro l
      induction l with
      | nil => intro m _ _ h; cases m with
        | nil => rfl
        | cons b m => simp at h
      | cons a l ih => intro m hl hm h; cases m with
        | nil => simp at h
        | cons b m =>
          simp only [List.map_cons, List.cons.injEq] at h
          have ha := hl a (by simp)
          have hb := hm b (by simp)
          have e : a.toNat = b.toNat := by
            have := congrArg UInt8.toNat h.1
            simp only [UInt8.toNat_ofNat'] at this
            omega
          rw [show a = b by omega, ih m (fun x hx => hl x (by simp [hx])) (fun x hx => hm x (by simp [hx])) h.2]
    exact key l m hl hm h1
  · rintro rfl; rfl
theorem ret_int {k : IntKind} {a b : Int} (h : a = b) : Ending.returned (.int k a) = .returned (.int k b) := by rw [h]
theorem ret_bool {a b : Bool} (h : a = b) : Ending.returned (.bool a) = .returned (.bool b) := by rw [h]
theorem toList_inj (a b : ByteArray) : a.toList = b.toList ↔ a = b := by
  constructor
  · intro h
    rw [ByteArray.toList_eq, ByteArray.toList_eq] at h
    cases a; cases b
    simpa using h
  · rintro rfl; rfl

set_option maxHeartbeats 400000 in
theorem same_any (w : World) (a a' : Option Addr) (len len' cap cap' : Nat) (l l' : List Int) (h : Has w a len cap l) (h' : Has w a' len' cap' l') :
    Calls Tryz.prog 8 #[.slice a len cap, .slice a' len' cap'] w fun e w' => e = .returned (.bool (decide (l = l'))) ∧ w' = w := by
  have r1 := run_string h
  have r2 := run_string h'
  have hi : Hid (strOfNums l = strOfNums l' ↔ l = l') := strOfNums_inj h.bytes h'.bytes
  clear h h'
  go_enter Tryz.func8, Tryz.ntmps8
  go_wp2
  go_ret
  exact ⟨ret_bool (by rw [Bool.eq_iff_iff, beq_iff_eq, decide_eq_true_iff, ← hi.out]; exact toList_inj _ _), rfl⟩

theorem wpList_app {w : World} {ops : Array Oper} {rest : List Oper} {o : Oper} {a : Act} {Q : Exit → Act → World → Prop} (hgd : o.guard = none) (s x : Operand)
    (ho : o.op = .call { callee := .builtin .append, args := #[s, x], argTypes := #[24, 24] })
    (base : Nat) (v : Value) (n : Nat) (l : List Int) (hs : a.eval s = v) (hown : w.ownsRow base 5 1 v n (l.map (Value.int .u8)))
    (ax : Option Addr) (len cap : Nat) (lx : List Int) (hx : a.eval x = .slice ax len cap) (hh : Has w ax len cap lx)
    (hb : n + len ≤ 4398046511104) (hbase : base ≤ w.heap.size)
    (h : ∀ v' w', w'.ownsRow base 5 1 v' (n + len) ((l ++ lx).map (Value.int .u8)) → w.grownBy w' v.ownBlock → wpList Tryz.prog ops Q rest (a.put o.dst v') w') :
    wpList Tryz.prog ops Q (o :: rest) a w := by
  obtain ⟨i0, hi, hz0, hz1, hz2⟩ := info_parts info5
  cases ax with
  | none =>
    have hc := hh.nil rfl
    have hl := hh.le
    subst hc
    obtain rfl : len = 0 := by omega
    obtain rfl : lx = [] := List.eq_nil_of_length_eq_zero hh.hlen
    refine wpList_append_own_none hgd s x 24 ho base 5 i0 1 Tryz.underlying24 hi v n (l.map (Value.int .u8)) hs hown hx ?_
    exact h v w (by simpa using hown) (World.grownBy.refl w _)
  | some ad =>
    refine wpList_append_own w hgd s x 24 ho base 5 i0 (.int .u8 0) 1 1 Tryz.underlying24 hi hz0 hz1 hz2 rfl (by decide) v n (l.map (Value.int .u8)) hs hown ad len cap (lx.map (Value.int .u8)) hx
      (by simp [hh.hlen]) ?_ (ints_oneCell _ _) (by unfold maxLen; omega) (by omega) hbase ?_
    · intro j u hj
      by_cases hp : 0 < len
      · obtain ⟨b, off, e1, e2, e3⟩ := cells_of_has hh hp
        cases e1
        exact e3 j u hj
      · obtain rfl : lx = [] := List.eq_nil_of_length_eq_zero (by have := hh.hlen; omega)
        simp at hj
    · intro v' w' h1 h2 _
      exact h v' w' (by simpa using h1) h2

theorem has_one (w : World) (b : Int) (hb : 0 ≤ b ∧ b ≤ 255) : Has (w.alloc (.cells #[.int .u8 b] 5)) (some ⟨w.heap.size, 0, none⟩) 1 1 [b] := by
  refine ⟨rfl, Nat.le_refl _, by unfold maxLen; omega, (fun h => by cases h), fun _ => ⟨w.heap.size, 0, rfl, by simp, fun i hi => ?_⟩, fun x hx => ?_⟩
  · obtain rfl : i = 0 := by omega
    simp
  · simp at hx; omega

theorem has_lit (w : World) (xs : List Int) (hb : ∀ x ∈ xs, 0 ≤ x ∧ x ≤ 255) (hm : xs.length ≤ maxLen) : Has (w.alloc (.cells (xs.map (Value.int .u8)).toArray 5)) (some ⟨w.heap.size, 0, none⟩) xs.length xs.length xs := by
  refine ⟨rfl, Nat.le_refl _, hm, (fun h => by cases h), fun _ => ⟨w.heap.size, 0, rfl, by simp, fun i hi => ?_⟩, hb⟩
  simp [List.getElem?_eq_getElem hi]

theorem owns_empty (w : World) : (w.alloc (.cells #[] 5)).ownsRow w.heap.size 5 1 (.slice (some ⟨w.heap.size, 0, none⟩) 0 0) 0 (([] : List Int).map (Value.int .u8)) := by
  simpa using World.ownsRow_made (e := 5) (size := 1) w #[] 0 (Nat.le_refl _) (Nat.zero_le _) (by simp)

/-- The end of a walk that hands out a row of its own. -/
theorem ret_of_owns {w w' : World} {v : Value} {n : Nat} {l : List Int} (h : w'.ownsRow w.heap.size 5 1 v n (l.map (Value.int .u8))) (hl : ∀ x ∈ l, 0 ≤ x ∧ x ≤ 255) (hb : Below w.heap.size w w') : Ret w l (.returned v) w' := by
  obtain ⟨a, cap, rfl, hh⟩ := has_of_owns h hl
  exact ⟨a, n, cap, rfl, hh, hb, h⟩

theorem wpList_make2 {w : World} {ops : Array Oper} {rest : List Oper} {o : Oper} {a : Act} {Q : Exit → Act → World → Prop}
    (hg : o.guard = none) (lo co : Operand) (hop : o.op = Op.makeSlice 24 lo co) (n c : Nat) (L C : Int) (hl : a.eval lo = .int .i64 L) (hc : a.eval co = .int .i64 C) (hL : L = (n : Int)) (hC : C = (c : Int))
    (hnc : n ≤ c) (hb : c ≤ 4398046511104)
    (h : ∀ w', w'.ownsRow w.heap.size 5 1 (.slice (some ⟨w.heap.size, 0, none⟩) n c) n ((List.replicate n (0 : Int)).map (Value.int .u8)) → Below w.heap.size w w' →
      wpList Tryz.prog ops Q rest (a.put o.dst (.slice (some ⟨w.heap.size, 0, none⟩) n c)) w') :
    wpList Tryz.prog ops Q (o :: rest) a w := by
  obtain ⟨i0, hi, hz0, hz1, hz2⟩ := info_parts info5
  refine wpList_plain hg fun K hK' => ?_
  subst hL hC
  have hrun := run_make (P := Tryz.prog) w 24 5 i0 (.int .u8 0) Tryz.underlying24 hi hz0 .i64 .i64 n c (by omega) (by omega) (by rw [hz2]; omega) (by omega)
  simp only [Int.toNat_natCast, hz1, Nat.mul_one] at hrun
  unfold Oper.wp
  simp [execOp, hop, hl, hc, hrun, Result.andThen]
  refine hK' _ _ (h _ ⟨by simp, .inr ⟨w.heap.size, c, _, rfl, Nat.le_refl _, heap_alloc_new w _, hnc, by unfold maxLen; omega, ?_, ?_⟩⟩ ((Below.refl _ _).alloc (Nat.le_refl _) _))
  · rw [size_madeCells]; omega
  · rw [show (Value.int IntKind.u8 0).cells = #[.int .u8 0] from rfl, toList_madeCells_one]
    simp
    omega

theorem wpList_copy2 {w : World} {ops : Array Oper} {rest : List Oper} {o : Oper} {a : Act} {Q : Exit → Act → World → Prop} (hgd : o.guard = none) (d s : Operand)
    (ho : o.op = .call { callee := .builtin .copy, args := #[d, s], argTypes := #[24, 24] })
    (base g n c : Nat) (xs : List Int) (hd : a.eval d = .slice (some ⟨g, 0, none⟩) n c) (hown : w.ownsRow base 5 1 (.slice (some ⟨g, 0, none⟩) n c) n (xs.map (Value.int .u8)))
    (sa : Option Addr) (m scap : Nat) (l : List Int) (hs : a.eval s = .slice sa m scap) (hm : m = n) (hh : Has w sa n scap l)
    (h : ∀ w', w'.ownsRow base 5 1 (.slice (some ⟨g, 0, none⟩) n c) n (l.map (Value.int .u8)) → w.grownBy w' (some g) → wpList Tryz.prog ops Q rest (a.put o.dst (goInt n)) w') :
    wpList Tryz.prog ops Q (o :: rest) a w := by
  subst hm
  have hsz : (Tryz.prog.info? 5).map (·.size) = some 1 := by
    obtain ⟨i0, hi, hz0, hz1, hz2⟩ := info_parts info5
    simp [hi, hz1]
  by_cases h0 : m = 0
  · subst h0
    obtain rfl : l = [] := List.eq_nil_of_length_eq_zero hh.hlen
    obtain rfl : xs = [] := List.eq_nil_of_length_eq_zero (by simpa using hown.1)
    exact wpList_copy_nothing hgd d s 24 24 ho 5 Tryz.underlying24 hsz _ _ 0 c 0 scap hd hs (by simp) (h w hown (World.grownBy.refl w _))
  · obtain ⟨b, off, rfl, e2, e3⟩ := cells_of_has hh (by omega)
    rcases hown.2 with ⟨h1, h2⟩ | ⟨g', cap, cur, hv, hbg, hg, hnc, hcm, hcs, htake⟩
    · omega
    · cases hv
      have hl : (l.map (Value.int .u8)).length = m := by simpa using hh.hlen
      have key := wpList_copy_own (P := Tryz.prog) (Q := Q) (ops := ops) (rest := rest) hgd d s 24 24 ho 5 Tryz.underlying24 hsz g 0 m c ⟨b, off, none⟩ m scap hd hs cur 5 hg (l.map (Value.int .u8)) (by rw [hl]; simp) e3 (by rw [hl]; omega) (ints_oneCell _ _)
      rw [hl] at key
      refine key (h _ ⟨by rw [hl]; omega, .inr ⟨g, c, _, rfl, hbg, setRow_heap w g cur _ 5 _ hg, hnc, hcm, ?_, ?_⟩⟩ ⟨rfl, rfl, rfl, by simp, fun k _ hk => setRow_other w g k _ (fun e => hk (by simp [e]))⟩)
      · simp [hl]; omega
      · simp [hl]

set_option maxHeartbeats 400000 in
theorem bytes_any (w : World) (a : Option Addr) (len cap : Nat) (l : List Int) (h : Has w a len cap l) (hb : len ≤ 1099511627776) :
    Calls Tryz.prog 14 #[.slice a len cap] w (Ret w l) := by
  have H := h.kept ((Below.refl w.heap.size w).alloc (Nat.le_refl _) (.cells #[] 5)) (Nat.le_refl _)
  have hl := h.bytes
  have hB : Below w.heap.size w (w.alloc (.cells #[] 5)) := (Below.refl _ _).alloc (Nat.le_refl _) _
  have O := owns_empty w
  clear h
  go_enter Tryz.func14, Tryz.ntmps14
  go_wp2_with (at_builtin; refine wpList_app rfl (.tmp 3) (.tmp 4) rfl w.heap.size _ 0 [] rfl O a len cap l rfl H (by omega) (by simp) ?_; intro v' w' h1 h2)
  go_ret
  refine ret_of_owns (n := 0 + len) (by simpa using h1) hl (hB.grown h2 (by simp) (fun k hk => (O.lt k hk).1))

/-- Nothing has turned but blocks in S, and new ones. -/
structure But (S : Nat → Prop) (w w' : World) : Prop where
  os : w'.os = w.os
  tape : w'.tape = w.tape
  output : w'.output = w.output
  size : w.heap.size ≤ w'.heap.size
  block : ∀ k, k < w.heap.size → ¬ S k → w'.heap[k]? = w.heap[k]?

theorem But.refl (S : Nat → Prop) (w : World) : But S w w := ⟨rfl, rfl, rfl, Nat.le_refl _, fun _ _ _ => rfl⟩
theorem But.trans {S T : Nat → Prop} {a b c : World} (h : But S a b) (k : But T b c) (hT : ∀ i, i < a.heap.size → T i → S i) : But S a c :=
  ⟨k.os.trans h.os, k.tape.trans h.tape, k.output.trans h.output, Nat.le_trans h.size k.size, fun i hi hn => (k.block i (Nat.lt_of_lt_of_le hi h.size) (fun t => hn (hT i hi t))).trans (h.block i hi hn)⟩
theorem But.mono {S T : Nat → Prop} {w w' : World} (h : But S w w') (hT : ∀ k, S k → T k) : But T w w' := ⟨h.os, h.tape, h.output, h.size, fun k hk hn => h.block k hk (fun s => hn (hT k s))⟩
theorem But.drewN {S : Nat → Prop} {a w : World} (h : But S a w) (n : Nat) : But S a (w.drewN n) := ⟨h.os, h.tape, h.output, h.size, h.block⟩
theorem But.drew {S : Nat → Prop} {a w : World} (h : But S a w) : But S a w.drew := ⟨h.os, h.tape, h.output, h.size, h.block⟩
theorem But.alloc {S : Nat → Prop} {a w : World} (h : But S a w) (o : Obj) : But S a (w.alloc o) :=
  h.trans (T := fun _ => False) ⟨rfl, rfl, rfl, by simp, fun k hk _ => Below.heap_alloc w o k hk⟩ (fun _ _ h => h.elim)
theorem But.setCell {S : Nat → Prop} {a w : World} (h : But S a w) {p : Addr} (hp : p.block < a.heap.size → S p.block) (u : Value) : But S a (w.setCell p u) :=
  h.trans (T := fun k => k = p.block) ⟨rfl, rfl, rfl, by simp [World.setCell], fun k hk hn => Below.heap_setCell w p u k hn⟩ (fun i hi e => by subst e; exact hp hi)
theorem But.grown {S : Nat → Prop} {a w w' : World} {row : Option Nat} (h : But S a w) (hg : w.grownBy w' row) (hr : ∀ k, row = some k → k < a.heap.size → S k) : But S a w' :=
  h.trans (T := fun k => row = some k) ⟨hg.os, hg.tape, hg.output, hg.size, fun k hk hn => hg.block k hk (fun e => hn e.symm)⟩ (fun i hi e => hr i e hi)
theorem But.below {S : Nat → Prop} {B : Nat} {w w' : World} (h : But S w w') (hB : B ≤ w.heap.size) (hS : ∀ k, S k → B ≤ k) : Below B w w' :=
  ⟨h.os, h.tape, h.output, h.size, fun k hk => h.block k (by omega) (fun s => by have := hS k s; omega)⟩
theorem but_of_below {B : Nat} {w w' : World} (h : Below B w w') (S : Nat → Prop) (hS : ∀ k, k < w.heap.size → B ≤ k → S k) : But S w w' :=
  ⟨h.os, h.tape, h.output, h.size, fun k hk hn => h.block k (by rcases Nat.lt_or_ge k B with h | h; exact h; exact (hn (hS k hk h)).elim)⟩

theorem owns_of_block {w w' : World} {base n : Nat} {e : TypeId} {v : Value} {xs : List Value} (h : w.ownsRow base e 1 v n xs) (hb : ∀ k, v.ownBlock = some k → w'.heap[k]? = w.heap[k]?) : w'.ownsRow base e 1 v n xs := by
  refine ⟨h.1, ?_⟩
  rcases h.2 with h1 | ⟨g, cap, cur, rfl, h2, h3, h4⟩
  · exact .inl h1
  · exact .inr ⟨g, cap, cur, rfl, h2, (hb g rfl).trans h3, h4⟩
theorem owns_mono {w : World} {base base' n : Nat} {e : TypeId} {v : Value} {xs : List Value} (h : w.ownsRow base e 1 v n xs) (hb : base' ≤ base) : w.ownsRow base' e 1 v n xs := by
  refine ⟨h.1, ?_⟩
  rcases h.2 with h1 | ⟨g, cap, cur, rfl, h2, h3⟩
  · exact .inl h1
  · exact .inr ⟨g, cap, cur, rfl, by omega, h3⟩

/-- A writer, or a reader, of the type t: the bytes l in the slice v, the place at'. -/
structure Oct (w : World) (base p : Nat) (t : TypeId) (v : Value) (l : List Int) (at' : Nat) : Prop where
  heap : w.heap[p]? = some (.cells #[v, .int .i64 (at' : Int), .bool true] t (0, 0))
  ge : base ≤ p
  own : w.ownsRow base 5 1 v l.length (l.map (Value.int .u8))
  ne : v.ownBlock ≠ some p

/-- The blocks of it. -/
def fp (p : Nat) (v : Value) : Nat → Prop := fun k => k = p ∨ v.ownBlock = some k

section
variable {w w' : World} {base p : Nat} {t : TypeId} {v : Value} {l : List Int} {n : Nat}
theorem Oct.lt (h : Oct w base p t v l n) : p < w.heap.size := (Array.getElem?_eq_some_iff.1 h.heap).1
theorem Oct.c0 (h : Oct w base p t v l n) : w.cell? ⟨p, 0, none⟩ = some v := by rw [cell_of_row w p 0 _ t (0, 0) h.heap]; rfl
theorem Oct.c1 (h : Oct w base p t v l n) : w.cell? ⟨p, 1, none⟩ = some (.int .i64 (n : Int)) := by rw [cell_of_row w p 1 _ t (0, 0) h.heap]; rfl
theorem Oct.c2 (h : Oct w base p t v l n) : w.cell? ⟨p, 2, none⟩ = some (.bool true) := by rw [cell_of_row w p 2 _ t (0, 0) h.heap]; rfl
theorem Oct.fz (h : Oct w base p t v l n) (i : Nat) : w.frozen? ⟨p, i, none⟩ = false := frozen_of_row w p i _ t h.heap
theorem Oct.slice (h : Oct w base p t v l n) : ∃ a c, v = .slice a l.length c := by
  rcases h.own.2 with ⟨rfl, h1⟩ | ⟨g, cap, cur, rfl, _⟩
  · exact ⟨none, 0, by rw [h1]⟩
  · exact ⟨_, _, rfl⟩
theorem Oct.mono (h : Oct w base p t v l n) {b : Nat} (hb : b ≤ base) : Oct w b p t v l n := ⟨h.heap, by have := h.ge; omega, owns_mono h.own hb, h.ne⟩
/-- It stays where nothing of it turns. -/
theorem Oct.kept (h : Oct w base p t v l n) {S : Nat → Prop} (hb : But S w w') (hS : ∀ k, S k → ¬ fp p v k) : Oct w' base p t v l n :=
  ⟨(hb.block p h.lt (fun s => hS p s (.inl rfl))).trans h.heap, h.ge, owns_of_block h.own (fun k hk => hb.block k (h.own.lt k hk).2 (fun s => hS k s (.inr hk))), h.ne⟩
theorem Oct.below (h : Oct w base p t v l n) {B : Nat} (hb : Below B w w') (hB : w.heap.size ≤ B) : Oct w' base p t v l n :=
  ⟨(hb.block p (by have := h.lt; omega)).trans h.heap, h.ge, owns_of_block h.own (fun k hk => hb.block k (by have := (h.own.lt k hk).2; omega)), h.ne⟩
theorem Oct.drewN (h : Oct w base p t v l n) (k : Nat) : Oct (w.drewN k) base p t v l n := ⟨h.heap, h.ge, h.own, h.ne⟩
theorem Oct.drew (h : Oct w base p t v l n) : Oct w.drew base p t v l n := ⟨h.heap, h.ge, h.own, h.ne⟩
theorem Oct.alloc (h : Oct w base p t v l n) (o : Obj) : Oct (w.alloc o) base p t v l n := h.below ((Below.refl _ _).alloc (Nat.le_refl _) o) (Nat.le_refl _)
theorem Oct.setAt (h : Oct w base p t v l n) (m : Nat) : Oct (w.setCell ⟨p, 1, none⟩ (.int .i64 (m : Int))) base p t v l m := by
  refine ⟨?_, h.ge, owns_of_block h.own (fun k hk => Below.heap_setCell w _ _ k (fun e => h.ne (by rw [← show k = p from e]; exact hk))), h.ne⟩
  rw [heap_setCell_same w p 1 _ t _ h.heap]
  rfl
theorem Oct.setList (h : Oct w base p t v l n) {v' : Value} {l' : List Int} (ho : w.ownsRow base 5 1 v' l'.length (l'.map (Value.int .u8))) (hn : v'.ownBlock ≠ some p) : Oct (w.setCell ⟨p, 0, none⟩ v') base p t v' l' n := by
  refine ⟨?_, h.ge, owns_of_block ho (fun k hk => Below.heap_setCell w _ _ k (fun e => hn (by rw [← show k = p from e]; exact hk))), hn⟩
  rw [heap_setCell_same w p 0 _ t _ h.heap]
  rfl
theorem Oct.setByte (h : Oct w base p t v l n) {g len c : Nat} (hv : v = .slice (some ⟨g, 0, none⟩) len c) (i : Nat) (x : Int) : Oct (w.setCell ⟨g, i, none⟩ (.int .u8 x)) base p t v (l.set i x) n := by
  have hg : g ≠ p := fun e => h.ne (by rw [hv, e]; rfl)
  refine ⟨(Below.heap_setCell w _ _ p (fun e => hg e.symm)).trans h.heap, h.ge, ?_, h.ne⟩
  refine ⟨by simp, ?_⟩
  rcases h.own.2 with ⟨e, _⟩ | ⟨g', cap, cur, e, h2, h3, h4, h5, h6, h7⟩
  · rw [hv] at e; cases e
  · rw [hv] at e
    cases e
    refine .inr ⟨g, _, _, by rw [hv, List.length_set], h2, heap_setCell_same w g i cur 5 _ h3, by rw [List.length_set]; exact h4, h5, by simpa using h6, ?_⟩
    rw [Array.toList_setIfInBounds, List.take_set, List.length_set, h7, List.map_set]
theorem Oct.has (h : Oct w base p t v l n) (hl : ∀ x ∈ l, 0 ≤ x ∧ x ≤ 255) : ∃ a c, v = .slice a l.length c ∧ Has w a l.length c l := has_of_owns h.own hl
end

/-! The small functions. -/
set_option maxHeartbeats 400000 in
theorem isSize_any (n : Int) (w : World) : Calls Tryz.prog 82 #[.int .i64 n] w fun e w' => e = .returned (.bool (decide (0 ≤ n ∧ n ≤ 64))) ∧ w' = w := by
  by_cases h0 : 0 ≤ n
  · by_cases h1 : n ≤ 64
    · go_enter Tryz.func82, Tryz.ntmps82
      go_wp2
      go_ret
      exact ⟨ret_bool (by simp; omega), rfl⟩
    · go_enter Tryz.func82, Tryz.ntmps82
      go_wp2
      go_ret
      exact ⟨ret_bool (by simp; omega), rfl⟩
  · go_enter Tryz.func82, Tryz.ntmps82
    go_wp2
    go_ret
    exact ⟨ret_bool (by simp; omega), rfl⟩

theorem mask64 (x n : Nat) (hx : x < 18446744073709551616) (hn : n ≤ 64) : bits BinOp.andNot IntKind.u64 (x : Int) (IntKind.u64.wrap (bits BinOp.xor IntKind.u64 IntKind.u64.max 0 * 2 ^ n)) = ((x % 2 ^ n : Nat) : Int) := by
  have e0 : bits BinOp.xor IntKind.u64 IntKind.u64.max 0 = ((18446744073709551615 : Nat) : Int) := by decide +kernel
  have hp : 2 ^ n ≤ 2 ^ 64 := Nat.pow_le_pow_right (by decide) hn
  have e1 : IntKind.u64.wrap (((18446744073709551615 : Nat) : Int) * 2 ^ n) = ((18446744073709551616 - 2 ^ n : Nat) : Int) := by
    rw [IntKind.wrap_u64]
    have e2 : (2 : Int) ^ n = ((2 ^ n : Nat) : Int) := by simp
    rw [e2]
    have h0 := Nat.two_pow_pos n
    generalize 2 ^ n = m at hp h0
    omega
  rw [e0, e1, u64_andNot_nat x _ hx (by have := Nat.two_pow_pos n; omega)]
  congr 1
  have e3 : 18446744073709551615 - (18446744073709551616 - 2 ^ n) = 2 ^ n - 1 := by
    have h0 := Nat.two_pow_pos n
    generalize 2 ^ n = m at hp h0
    omega
  rw [e3, Nat.and_two_pow_sub_one_eq_mod]
theorem mask8 (x n : Nat) (hx : x < 256) (hn : n ≤ 8) : bits BinOp.andNot IntKind.u8 (x : Int) (bits BinOp.xor IntKind.u8 IntKind.u8.max 0 * 2 ^ n % 256) = ((x % 2 ^ n : Nat) : Int) := by
  have e0 : bits BinOp.xor IntKind.u8 IntKind.u8.max 0 = ((255 : Nat) : Int) := by decide +kernel
  have hp : 2 ^ n ≤ 2 ^ 8 := Nat.pow_le_pow_right (by decide) hn
  have e1 : ((255 : Nat) : Int) * 2 ^ n % 256 = ((256 - 2 ^ n : Nat) : Int) := by
    have e2 : (2 : Int) ^ n = ((2 ^ n : Nat) : Int) := by simp
    rw [e2]
    have h0 := Nat.two_pow_pos n
    generalize 2 ^ n = m at hp h0
    omega
  rw [e0, e1, u8_andNot_nat x _ hx (by have := Nat.two_pow_pos n; omega)]
  congr 1
  have e3 : 255 - (256 - 2 ^ n) = 2 ^ n - 1 := by
    have h0 := Nat.two_pow_pos n
    generalize 2 ^ n = m at hp h0
    omega
  rw [e3, Nat.and_two_pow_sub_one_eq_mod]

set_option maxHeartbeats 400000 in
theorem low64_any (x n : Nat) (w : World) (hx : x < 18446744073709551616) (hn : n ≤ 64) : Calls Tryz.prog 85 #[.int .u64 (x : Int), .int .i64 (n : Int)] w fun e w' => e = .returned (.int .u64 ((x % 2 ^ n : Nat) : Int)) ∧ w' = w := by
  have hm := hide (mask64 x n hx hn)
  go_enter Tryz.func85, Tryz.ntmps85
  go_wp2
  go_ret
  exact ⟨ret_int hm.out, rfl⟩
set_option maxHeartbeats 400000 in
theorem low8_any (x n : Nat) (w : World) (hx : x < 256) (hn : n ≤ 8) : Calls Tryz.prog 100 #[.int .u8 (x : Int), .int .i64 (n : Int)] w fun e w' => e = .returned (.int .u8 ((x % 2 ^ n : Nat) : Int)) ∧ w' = w := by
  have hm := hide (mask8 x n hx hn)
  have h8 : min n 8 = n := by omega
  go_enter Tryz.func100, Tryz.ntmps100
  go_wp2
  go_ret
  exact ⟨ret_int hm.out, rfl⟩

set_option maxHeartbeats 400000 in
theorem left_any {w : World} {base p t : Nat} {v : Value} {l : List Int} {n : Nat} (h : Oct w base p t v l n) (hn : n ≤ 8 * l.length) (hl : l.length ≤ 1099511627776) :
    Calls Tryz.prog 83 #[.pointer (some ⟨p, 0, none⟩)] w fun e w' => e = .returned (.int .i64 ((8 * l.length - n : Nat) : Int)) ∧ ∃ k, w' = w.drewN k := by
  obtain ⟨a, c, rfl⟩ := h.slice
  have h0 := h.c0
  have h1 := h.c1
  clear h
  go_enter Tryz.func83, Tryz.ntmps83
  go_wp2_with fail
  go_quiet (fail)
  go_wp2
  go_ret
  exact ⟨ret_int (by omega), _, rfl⟩

set_option maxHeartbeats 400000 in
theorem piece_any {w : World} {base p t : Nat} {v : Value} {l : List Int} {n : Nat} (h : Oct w base p t v l n) (hn : n ≤ 8796093022208) (r : Nat) (hr : r ≤ 64) :
    Calls Tryz.prog 84 #[.pointer (some ⟨p, 0, none⟩), .int .i64 (r : Int)] w fun e w' => e = .returned (.tuple #[.int .i64 ((min r (8 - n % 8) : Nat) : Int), .int .i64 ((8 - n % 8 - min r (8 - n % 8) : Nat) : Int)]) ∧ w' = w := by
  have h1 := h.c1
  clear h
  go_enter Tryz.func84, Tryz.ntmps84
  go_wp2
  all_goals go_ret2
  · exact ⟨by simp; omega, rfl⟩
  · exact ⟨by simp; omega, rfl⟩

set_option maxHeartbeats 400000 in
theorem wlen_any {w : World} {base p t : Nat} {v : Value} {l : List Int} {n : Nat} (h : Oct w base p t v l n) :
    Calls Tryz.prog 101 #[.pointer (some ⟨p, 0, none⟩)] w fun e w' => e = .returned (.int .i64 (n : Int)) ∧ w' = w := by
  have h1 := h.c1
  clear h
  go_enter Tryz.func101, Tryz.ntmps101
  go_wp2
  go_ret
  exact ⟨rfl, rfl⟩
theorem newWriter_any (w : World) : Calls Tryz.prog 26 #[] w fun e w' => ∃ p, e = .returned (.pointer (some ⟨p, 0, none⟩)) ∧ Below w.heap.size w w' ∧ Oct w' w.heap.size p 100 (.slice none 0 0) [] 0 := by
  go_enter Tryz.func26, Tryz.ntmps26
  go_wp2
  go_ret
  exact ⟨_, rfl, (Below.refl _ _).alloc (Nat.le_refl _) _, heap_alloc_new w _, Nat.le_refl _, World.ownsRow_nil _ _ _ _, by simp [Value.ownBlock]⟩

theorem equalIn_nil (w : World) (d : Nat) (a : Option Addr) (l c : Nat) : (Op.equalIn (d + 1) 24 (.slice a l c) (.slice none 0 0)).run Tryz.prog w = .ok a.isNone w := by
  cases a <;> simp [Op.equalIn, run_underlying Tryz.underlying24]
theorem eql_nil (w : World) (a : Option Addr) (l c : Nat) : (binOp .eql 24 (.slice a l c) (.slice none 0 0)).run Tryz.prog w = .ok (.bool a.isNone) w := by
  have h : (Op.equal 24 (.slice a l c) (.slice none 0 0)).run Tryz.prog w = .ok a.isNone w := equalIn_nil w 9999 a l c
  simp [binOp, h]
set_option maxHeartbeats 400000 in
theorem clone_any (w : World) (a : Option Addr) (len cap : Nat) (l : List Int) (h : Has w a len cap l) (hb : len ≤ 1099511627776) :
    Calls Tryz.prog 52 #[.slice a len cap] w (Ret w l) := by
  cases a with
  | none =>
    have h1 := h.nil rfl
    have h2 := h.le
    obtain rfl : cap = 0 := h1
    obtain rfl : len = 0 := by omega
    obtain rfl : l = [] := List.eq_nil_of_length_eq_zero h.hlen
    clear h
    have hq : (binOp .eql 24 (.slice none 0 0) (.slice none 0 0)).run Tryz.prog w = .ok (.bool true) w := eql_nil w none 0 0
    go_enter Tryz.func52, Tryz.ntmps52
    go_wp2
    go_ret
    exact ⟨none, 0, 0, rfl, has_nil w, Below.refl _ _, World.ownsRow_nil _ _ _ _⟩
  | some ad =>
    have H := hide (h.kept ((Below.refl w.heap.size w).alloc (Nat.le_refl _) (.cells #[] 5)) (Nat.le_refl _))
    have hl := hide h.bytes
    have hB : Below w.heap.size w (w.alloc (.cells #[] 5)) := (Below.refl _ _).alloc (Nat.le_refl _) _
    have O := owns_empty w
    clear h
    have hq : (binOp .eql 24 (.slice (some ad) len cap) (.slice none 0 0)).run Tryz.prog w = .ok (.bool false) w := eql_nil w (some ad) len cap
    go_enter Tryz.func52, Tryz.ntmps52
    go_wp2_with (at_builtin; refine wpList_app rfl (.tmp 5) (.tmp 6) rfl w.heap.size _ 0 [] rfl O (some ad) len cap l rfl H.out (by omega) (by simp) ?_; intro v' w' h1 h2)
    go_ret
    refine ret_of_owns (n := 0 + len) (by simpa using h1) hl.out (hB.grown h2 (by simp) (fun k hk => (O.lt k hk).1))

set_option maxHeartbeats 400000 in
theorem wbytes_any {w : World} {base p t : Nat} {v : Value} {l : List Int} {n : Nat} (h : Oct w base p t v l n) (hb : ∀ x ∈ l, 0 ≤ x ∧ x ≤ 255) (hl : l.length ≤ 1099511627776) :
    Calls Tryz.prog 31 #[.pointer (some ⟨p, 0, none⟩)] w (Ret w l) := by
  obtain ⟨a, c, rfl, H⟩ := h.has hb
  have h0 := h.c0
  have C := hide (clone_any w a l.length c l H hl)
  clear h H hb
  go_enter Tryz.func31, Tryz.ntmps31
  go_wp2_with (go_at_call 52; refine C.out.mono ?_; rintro e w' ⟨a', n', c', rfl, R⟩)
  go_ret
  exact ⟨a', n', c', rfl, R⟩

set_option maxHeartbeats 400000 in
theorem newReader_any (w : World) (a : Option Addr) (len cap : Nat) (l : List Int) (h : Has w a len cap l) (hb : len ≤ 1099511627776) :
    Calls Tryz.prog 57 #[.slice a len cap] w fun e w' => ∃ p v, e = .returned (.pointer (some ⟨p, 0, none⟩)) ∧ Below w.heap.size w w' ∧ Oct w' w.heap.size p 135 v l 0 := by
  have C := hide (clone_any w a len cap l h hb)
  clear h
  go_enter Tryz.func57, Tryz.ntmps57
  go_wp2_with (go_at_call 52; refine C.out.mono ?_; rintro e w' ⟨a', n', c', rfl, H', B', O'⟩)
  go_ret
  obtain rfl := H'.hlen
  refine ⟨_, _, rfl, B'.alloc B'.size _, heap_alloc_new w' _, B'.size, O'.alloc _, ?_⟩
  intro e
  have := (O'.lt _ e).2
  omega

end Go.Proofs.YtmjjedbdedemcaaGreatDoor
