/-
  What it means that a slice of bytes in memory has certain bytes ('Has'), how that is kept, and how it comes from a row that a call made itself.
-/
import Derived.Test.YtbinnpadmajgpaaVA
import Derived.Laws.CopyOwn
import Derived.Laws.AppendOwnNone
namespace Go.Proofs.Ytbinnpadmajgpaa.V
open Go.RowKit
set_option linter.unusedVariables false

/-- In the world w the slice (a, len, cap) has the bytes l. -/
structure Has (w : World) (a : Option Addr) (len cap : Nat) (l : List Int) : Prop where
  hlen : l.length = len
  le : len ≤ cap
  capb : cap ≤ maxLen
  nil : a = none → cap = 0
  cells : 0 < len → ∃ b off, a = some ⟨b, off, none⟩ ∧ b < w.heap.size ∧ ∀ i, i < len → w.cell? ⟨b, off + i, none⟩ = some (.int .u8 (l.getD i 0))
  bytes : ∀ x ∈ l, 0 ≤ x ∧ x ≤ 255

/-- The call has ended with a slice in memory that has the bytes l, and nothing that was there has turned. -/
def Ret (w : World) (l : List Int) (e : Ending) (w' : World) : Prop :=
  ∃ a n cap, e = .returned (.slice a n cap) ∧ Has w' a n cap l ∧ Below w.heap.size w w' ∧ w'.ownsRow w.heap.size 5 1 (.slice a n cap) n (l.map (Value.int .u8))

theorem Has.kept {w w' : World} {a : Option Addr} {len cap : Nat} {l : List Int} {B : Nat} (h : Has w a len cap l) (hb : Below B w w') (hB : w.heap.size ≤ B) : Has w' a len cap l := by
  refine ⟨h.hlen, h.le, h.capb, h.nil, fun hp => ?_, h.bytes⟩
  obtain ⟨b, off, e1, e2, e3⟩ := h.cells hp
  exact ⟨b, off, e1, Nat.lt_of_lt_of_le e2 hb.size, fun i hi => (hb.cell (p := ⟨b, off + i, none⟩) (Nat.lt_of_lt_of_le e2 hB)).trans (e3 i hi)⟩

theorem has_nil (w : World) : Has w none 0 0 [] := ⟨rfl, Nat.le_refl _, Nat.zero_le _, fun _ => rfl, fun h => by omega, fun x hx => by simp at hx⟩

theorem add_plain (b off j : Nat) : (⟨b, off, none⟩ : Addr).add j = ⟨b, off + j, none⟩ := by unfold Addr.add; split <;> simp_all

/-- An owned row of bytes has them. -/
theorem has_of_owns {w : World} {base : Nat} {v : Value} {n : Nat} {l : List Int} (h : w.ownsRow base 5 1 v n (l.map (Value.int .u8))) (hl : ∀ x ∈ l, 0 ≤ x ∧ x ≤ 255) :
    ∃ a cap, v = .slice a n cap ∧ Has w a n cap l := by
  have hlen : l.length = n := by simpa using h.1
  rcases h.2 with ⟨rfl, rfl⟩ | ⟨g, cap, cur, rfl, hbg, hg, hnc, hcm, hcs, htake⟩
  · exact ⟨none, 0, rfl, hlen, Nat.le_refl _, Nat.zero_le _, fun _ => rfl, fun h => by omega, hl⟩
  · refine ⟨some ⟨g, 0, none⟩, cap, rfl, hlen, hnc, hcm, (fun h => by cases h), fun hp => ⟨g, 0, rfl, ?_, fun i hi => ?_⟩, hl⟩
    · exact (Array.getElem?_eq_some_iff.1 hg).1
    · have := h.cells (g := g) rfl i (.int .u8 (l.getD i 0)) (by
        have hi' : i < l.length := by omega
        simp [List.getD, List.getElem?_eq_getElem hi'])
      rwa [add_plain] at this

theorem cells_of_has {w : World} {a : Option Addr} {len cap : Nat} {l : List Int} (h : Has w a len cap l) (hp : 0 < len) :
    ∃ b off, a = some ⟨b, off, none⟩ ∧ b < w.heap.size ∧ ∀ j u, (l.map (Value.int .u8))[j]? = some u → w.cell? ((⟨b, off, none⟩ : Addr).add j) = some u := by
  obtain ⟨b, off, e1, e2, e3⟩ := h.cells hp
  refine ⟨b, off, e1, e2, fun j u hj => ?_⟩
  have hjl : j < l.length := by
    rcases Nat.lt_or_ge j l.length with h | h
    · exact h
    · rw [List.getElem?_eq_none (by simpa using h)] at hj; cases hj
  rw [List.getElem?_map, List.getElem?_eq_getElem hjl] at hj
  simp only [Option.map_some, Option.some.injEq] at hj
  subst hj
  have := e3 j (by have := h.hlen; omega)
  rw [add_plain]
  simpa [List.getD, List.getElem?_eq_getElem hjl] using this

/-- A front of a slice. -/
theorem Has.front {w : World} {a : Option Addr} {len cap : Nat} {l : List Int} (h : Has w a len cap l) (k : Nat) (hk : k ≤ len) : Has w a k cap (l.take k) := by
  have hl := h.hlen
  refine ⟨by simp; omega, Nat.le_trans hk h.le, h.capb, h.nil, fun hp => ?_, fun x hx => h.bytes x (List.mem_of_mem_take hx)⟩
  obtain ⟨b, off, e1, e2, e3⟩ := h.cells (by omega)
  refine ⟨b, off, e1, e2, fun i hi => ?_⟩
  rw [e3 i (by omega)]
  simp [List.getD, hi]

theorem info5 : (Try.prog.info? 5).map (fun i => (i.zero, i.size, i.bytes)) = some (some (.int .u8 0), 1, 1) := by kernel_rfl

/-- 'string(b)' of a slice that has the bytes l. -/
theorem run_string {w : World} {a : Option Addr} {len cap : Nat} {l : List Int} (h : Has w a len cap l) :
    (convert 23 9 (.slice a len cap)).run Try.prog w = .ok (.string (strOfNums l)) w := by
  by_cases hp : 0 < len
  · obtain ⟨b, off, rfl, e2, e3⟩ := h.cells hp
    exact run_convert_bytes_arg w 23 5 Try.underlying23 Try.underlying5 b off len cap l h.hlen e3 9 Try.underlying9
  · have h0 : len = 0 := by omega
    subst h0
    have hl : l = [] := List.eq_nil_of_length_eq_zero h.hlen
    subst hl
    rw [run_convert_bytes_string w 23 9 5 _ 0 cap Try.underlying23 Try.underlying5 Try.underlying9]
    cases a <;> simp [Conv.bytesToString, loadCells]
    all_goals rfl

theorem strOfNums_inj {l m : List Int} (hl : ∀ x ∈ l, 0 ≤ x ∧ x ≤ 255) (hm : ∀ x ∈ m, 0 ≤ x ∧ x ≤ 255) : strOfNums l = strOfNums m ↔ l = m := by
  constructor
  · intro h
    have h1 : l.map (fun n => UInt8.ofNat n.toNat) = m.map (fun n => UInt8.ofNat n.toNat) := by
      have := congrArg (fun b : ByteArray => b.data.toList) h
      simpa [strOfNums] using this
    have key : ∀ (l m : List Int), (∀ x ∈ l, 0 ≤ x ∧ x ≤ 255) → (∀ x ∈ m, 0 ≤ x ∧ x ≤ 255) → l.map (fun n => UInt8.ofNat n.toNat) = m.map (fun n => UInt8.ofNat n.toNat) → l = m := by
      intro l
      induction l with
      | nil => intro m _ _ h; cases m with
        | nil => rfl
        | cons b m => simp at h
      | cons a l ih => intro m hl hm h; cases m with
        | nil => simp at h
        | cons b m =>
          simp only [List.map_cons, List.cons.injEq] at h
          have ha := hl a (by simp)
          have hb := hm b (by simp)
          have e : a.toNat = b.toNat := by
            have := congrArg UInt8.toNat h.1
            simp only [UInt8.toNat_ofNat'] at this
            omega
          rw [show a = b by omega, ih m (fun x hx => hl x (by simp [hx])) (fun x hx => hm x (by simp [hx])) h.2]
    exact key l m hl hm h1
  · rintro rfl; rfl
end Go.Proofs.Ytbinnpadmajgpaa.V
