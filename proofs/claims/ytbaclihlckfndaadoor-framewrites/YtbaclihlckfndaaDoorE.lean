/-
  Sectors, as lists of bytes: how one is laid, how it is read, and that what was laid is read.
-/
import Derived.Test.YtbaclihlckfndaaDoorNumB
namespace Go.Proofs.YtbaclihlckfndaaDoor
set_option linter.unusedVariables false

/-- The bytes of a number. -/
def byteOf (s k : Nat) : Nat := s / 2 ^ (8 * k) % 256
theorem byte_cast (s k : Nat) : (s : Int) / 2 ^ (8 * k) % 256 = ((byteOf s k : Nat) : Int) := by
  unfold byteOf; simp [Int.natCast_ediv, Int.natCast_pow]
theorem byte_lt (s k : Nat) : byteOf s k < 256 := Nat.mod_lt _ (by decide)
def bytesN (v n : Nat) : List Int := (List.range n).map (fun k => ((byteOf v k : Nat) : Int))
theorem bytesN_len (v n : Nat) : (bytesN v n).length = n := by simp [bytesN]
theorem bytesN_succ (v n : Nat) : bytesN v (n + 1) = bytesN v n ++ [((byteOf v n : Nat) : Int)] := by simp [bytesN, List.range_succ]
def Byts (l : List Int) : Prop := ∀ x ∈ l, 0 ≤ x ∧ x ≤ 255
theorem Byts.app {l m : List Int} (hl : Byts l) (hm : Byts m) : Byts (l ++ m) := fun x hx => (List.mem_append.1 hx).elim (hl x) (hm x)
theorem Byts.take {l : List Int} (h : Byts l) (k : Nat) : Byts (l.take k) := fun x hx => h x (List.mem_of_mem_take hx)
theorem Byts.drop {l : List Int} (h : Byts l) (k : Nat) : Byts (l.drop k) := fun x hx => h x (List.mem_of_mem_drop hx)
theorem byts_nil : Byts [] := fun x hx => by cases hx
theorem byts_zeros (n : Nat) : Byts (List.replicate n 0) := fun x hx => by rw [(List.mem_replicate.1 hx).2]; decide
theorem byts_N (v n : Nat) : Byts (bytesN v n) := fun x hx => by
  simp [bytesN] at hx
  obtain ⟨k, _, rfl⟩ := hx
  have := byte_lt v k
  omega
theorem byts_one {x : Int} (h : 0 ≤ x ∧ x ≤ 255) : Byts [x] := fun y hy => by simp at hy; omega

/-- The number that the first k bytes are. -/
def numK (l : List Int) : Nat → Nat
  | 0 => 0
  | k + 1 => numK l k + 2 ^ (8 * k) * (l.getD k 0).toNat
theorem getD_byt {l : List Int} (h : Byts l) (k : Nat) (hk : k < l.length) : 0 ≤ l.getD k 0 ∧ l.getD k 0 ≤ 255 := by
  have : l.getD k 0 = l[k] := by simp [List.getD, List.getElem?_eq_getElem hk]
  rw [this]; exact h _ (List.getElem_mem hk)
theorem numK_lt {l : List Int} (h : Byts l) (k : Nat) (hk : k ≤ l.length) : numK l k < 2 ^ (8 * k) := by
  induction k with
  | zero => exact Nat.one_pos
  | succ k ih =>
    have h1 := ih (by omega)
    have h2 := getD_byt h k (by omega)
    simp only [numK]
    rw [show 8 * (k + 1) = 8 * k + 8 by omega, Nat.pow_add]
    have h3 : 2 ^ (8 * k) * (l.getD k 0).toNat ≤ 2 ^ (8 * k) * 255 := Nat.mul_le_mul_left _ (by omega)
    omega
theorem numK_congr {l m : List Int} (k : Nat) (h : ∀ j, j < k → l.getD j 0 = m.getD j 0) : numK l k = numK m k := by
  induction k with
  | zero => rfl
  | succ k ih => simp only [numK]; rw [ih (fun j hj => h j (by omega)), h k (by omega)]
theorem numK_take (l : List Int) (k n : Nat) (h : k ≤ n) : numK (l.take n) k = numK l k := by
  apply numK_congr
  intro j hj
  simp [List.getD, show j < n by omega]
theorem numK_N (v n k : Nat) (h : k ≤ n) : numK (bytesN v n) k = v % 2 ^ (8 * k) := by
  induction k with
  | zero => simp [numK, Nat.mod_one]
  | succ k ih =>
    simp only [numK]
    rw [ih (by omega)]
    have : ((bytesN v n).getD k 0).toNat = byteOf v k := by simp [bytesN, List.getD, show k < n by omega]
    rw [this, byteOf, show 8 * (k + 1) = 8 * k + 8 by omega, Nat.pow_add, Nat.mod_mul]
theorem numK_app (l m : List Int) (k : Nat) (h : k ≤ l.length) : numK (l ++ m) k = numK l k := by
  apply numK_congr
  intro j hj
  simp [List.getD, List.getElem?_append_left (show j < l.length by omega)]

/-- A sector's first 251 bytes, and all of them. -/
def bodyOf (N : Nat) (m : List Int) (fl : Nat) : List Int := bytesN N 4 ++ (bytesN m.length 2 ++ ((fl : Int) :: (m ++ List.replicate (244 - m.length) 0)))
def sec (N : Nat) (m : List Int) (fl : Nat) : List Int := bodyOf N m fl ++ (bytesN (more 0 (bodyOf N m fl)) 4 ++ [255])
theorem bodyOf_len {N : Nat} {m : List Int} {fl : Nat} (h : m.length ≤ 244) : (bodyOf N m fl).length = 251 := by simp [bodyOf, bytesN_len]; omega
theorem sec_len {N : Nat} {m : List Int} {fl : Nat} (h : m.length ≤ 244) : (sec N m fl).length = 256 := by simp [sec, bodyOf_len h, bytesN_len]
theorem byts_cons {x : Int} {l : List Int} (h : 0 ≤ x ∧ x ≤ 255) (hl : Byts l) : Byts (x :: l) := (byts_one h).app hl
theorem byts_body {N : Nat} {m : List Int} {fl : Nat} (hm : Byts m) (hf : fl ≤ 255) : Byts (bodyOf N m fl) := (byts_N _ _).app ((byts_N _ _).app (byts_cons (by omega) (hm.app (byts_zeros _))))
theorem byts_sec {N : Nat} {m : List Int} {fl : Nat} (hm : Byts m) (hf : fl ≤ 255) : Byts (sec N m fl) := (byts_body hm hf).app ((byts_N _ _).app (byts_one (by decide)))

/-- What a right sector says. -/
structure Says where
  number : Nat
  bytes : List Int
  flags : Nat
/-- It may be said. -/
structure Says.Ok (p : Says) : Prop where
  number : p.number < 4294967296
  len : p.bytes.length ≤ 244
  byts : Byts p.bytes
  flags : p.flags ≤ 3
  full : p.bytes.length = 244 ∨ 2 ≤ p.flags
def Says.sec (p : Says) : List Int := YtbaclihlckfndaaDoor.sec p.number p.bytes p.flags
theorem Says.Ok.slen {p : Says} (h : p.Ok) : p.sec.length = 256 := sec_len h.len
theorem Says.Ok.sbyts {p : Says} (h : p.Ok) : Byts p.sec := byts_sec h.byts (by have := h.flags; omega)

/-- The sector that bytes begin with, read. -/
def cand (l : List Int) : Says := ⟨numK l 4, (l.drop 7).take (numK (l.drop 4) 2), (l.getD 6 0).toNat⟩
def Fits (l : List Int) : Prop := numK (l.drop 4) 2 ≤ 244 ∧ (l.getD 6 0).toNat ≤ 3 ∧ (numK (l.drop 4) 2 = 244 ∨ 2 ≤ (l.getD 6 0).toNat)
/-- Bytes begin with a right sector that says p. -/
def Begins (l : List Int) (p : Says) : Prop := p.Ok ∧ ∃ r, l = p.sec ++ r

theorem drop_sec (p : Says) (r : List Int) : (p.sec ++ r).drop 4 = bytesN p.bytes.length 2 ++ ((p.flags : Int) :: (p.bytes ++ (List.replicate (244 - p.bytes.length) 0 ++ (bytesN (more 0 (bodyOf p.number p.bytes p.flags)) 4 ++ [255] ++ r)))) := by
  unfold Says.sec YtbaclihlckfndaaDoor.sec
  generalize hq : bytesN (more 0 (bodyOf p.number p.bytes p.flags)) 4 ++ [255] = q
  rw [show bodyOf p.number p.bytes p.flags ++ q ++ r = bytesN p.number 4 ++ (bytesN p.bytes.length 2 ++ ((p.flags : Int) :: (p.bytes ++ (List.replicate (244 - p.bytes.length) 0 ++ (q ++ r))))) by simp [bodyOf]]
  rw [List.drop_append_of_le_length (by simp [bytesN_len]), List.drop_of_length_le (by simp [bytesN_len]), List.nil_append]
theorem drop_sec7 (p : Says) (r : List Int) : (p.sec ++ r).drop 7 = p.bytes ++ (List.replicate (244 - p.bytes.length) 0 ++ (bytesN (more 0 (bodyOf p.number p.bytes p.flags)) 4 ++ [255] ++ r)) := by
  rw [show 7 = 4 + 3 from rfl, ← List.drop_drop, drop_sec]
  rw [show bytesN p.bytes.length 2 = [((byteOf p.bytes.length 0 : Nat) : Int), ((byteOf p.bytes.length 1 : Nat) : Int)] from rfl]
  rfl
theorem cand_sec {p : Says} (h : p.Ok) (r : List Int) : cand (p.sec ++ r) = p := by
  have h1 : numK (p.sec ++ r) 4 = p.number := by
    unfold Says.sec YtbaclihlckfndaaDoor.sec bodyOf
    rw [List.append_assoc, List.append_assoc, numK_app _ _ _ (by simp [bytesN_len]), numK_N _ _ _ (Nat.le_refl _)]
    exact Nat.mod_eq_of_lt h.number
  have h2 : numK ((p.sec ++ r).drop 4) 2 = p.bytes.length := by
    rw [drop_sec, numK_app _ _ _ (by simp [bytesN_len]), numK_N _ _ _ (Nat.le_refl _)]
    have := h.len
    exact Nat.mod_eq_of_lt (by omega)
  have h3 : (p.sec ++ r).getD 6 0 = (p.flags : Int) := by
    have : (p.sec ++ r).getD 6 0 = ((p.sec ++ r).drop 4).getD 2 0 := by simp [List.getD, List.getElem?_drop]
    rw [this, drop_sec]
    rw [show bytesN p.bytes.length 2 = [((byteOf p.bytes.length 0 : Nat) : Int), ((byteOf p.bytes.length 1 : Nat) : Int)] from rfl]
    rfl
  obtain ⟨N, m, fl⟩ := p
  unfold cand
  rw [h1, h2, h3, drop_sec7]
  simp
theorem fits_sec {p : Says} (h : p.Ok) (r : List Int) : Fits (p.sec ++ r) := by
  have e := cand_sec h r
  have e1 : numK ((p.sec ++ r).drop 4) 2 = p.bytes.length := by
    rw [drop_sec, numK_app _ _ _ (by simp [bytesN_len]), numK_N _ _ _ (Nat.le_refl _)]
    have := h.len
    exact Nat.mod_eq_of_lt (by omega)
  have e2 : (cand (p.sec ++ r)).flags = p.flags := by rw [e]
  change ((p.sec ++ r).getD 6 0).toNat = p.flags at e2
  exact ⟨by rw [e1]; exact h.len, by rw [e2]; exact h.flags, by rw [e1, e2]; exact h.full⟩
theorem cand_ok {l : List Int} (hl : Byts l) (hn : 256 ≤ l.length) (hf : Fits l) : (cand l).Ok := by
  have h1 := numK_lt hl 4 (by omega)
  have h2 : ((l.drop 7).take (numK (l.drop 4) 2)).length = numK (l.drop 4) 2 := by simp; have := hf.1; omega
  exact ⟨h1, by show ((l.drop 7).take (numK (l.drop 4) 2)).length ≤ 244; rw [h2]; exact hf.1, (hl.drop 7).take _, hf.2.1, by show ((l.drop 7).take (numK (l.drop 4) 2)).length = 244 ∨ _; rw [h2]; exact hf.2.2⟩
/-- What they begin with is what is read of them, if it is. -/
theorem begins_cand {l : List Int} {p : Says} (h : Begins l p) : p = cand l := by
  obtain ⟨ho, r, rfl⟩ := h
  exact (cand_sec ho r).symm
theorem begins_iff {l : List Int} (hl : Byts l) : (∃ p, Begins l p) ↔ 256 ≤ l.length ∧ Fits l ∧ (cand l).sec = l.take 256 := by
  constructor
  · rintro ⟨p, ho, r, rfl⟩
    refine ⟨by simp [ho.slen], fits_sec ho r, ?_⟩
    rw [cand_sec ho, List.take_append_of_le_length (by rw [ho.slen]; exact Nat.le_refl _), List.take_of_length_le (by rw [ho.slen]; exact Nat.le_refl _)]
  · rintro ⟨h1, h2, h3⟩
    exact ⟨cand l, cand_ok hl h1 h2, l.drop 256, by rw [h3, List.take_append_drop]⟩
theorem begins_len {l : List Int} {p : Says} (h : Begins l p) : 256 ≤ l.length := by
  obtain ⟨ho, r, rfl⟩ := h
  simp [ho.slen]
end Go.Proofs.YtbaclihlckfndaaDoor
