/-
  The reference's index in memory: its entries; List.
-/
import Derived.Test.YthkfbdcocnhebaaS
import Derived.Test.YthkfbdcocnhebaaO
namespace Go.Proofs.Ythkfbdcocnhebaa
open Go.RowKit
set_option linter.unusedVariables false
set_option linter.unusedSimpArgs false

abbrev dE : Ent := (ByteArray.empty, [])
/-- In the world w the slice has the entries E. -/
structure HasE (No : Nat → Prop) (w : World) (a : Option Addr) (n c : Nat) (E : List Ent) : Prop where
  hlen : E.length = n
  le : n ≤ c
  capb : c ≤ maxLen
  cells : ∀ i, i < n → ∃ b off x m k, a = some ⟨b, off, none⟩ ∧ b < w.heap.size ∧ w.cell? ⟨b, off + i * 2, none⟩ = some (.string (E.getD i dE).1) ∧ w.cell? ⟨b, off + i * 2 + 1, none⟩ = some (.slice x m k) ∧ (HasU w x m k (E.getD i dE).2 ∧ ∀ q, 0 < m → (Value.slice x m k).ownBlock = some q → ¬ No q) ∧ ¬ No b
theorem HasE.kept {No : Nat → Prop} {w w' : World} {a : Option Addr} {n c B : Nat} {E : List Ent} (h : HasE No w a n c E) (hb : Below B w w') (hB : w.heap.size ≤ B) : HasE No w' a n c E :=
  ⟨h.hlen, h.le, h.capb, fun i hi => by
    obtain ⟨b, off, x, m, k, e1, e2, e3, e4, ⟨e5, e6⟩, e7⟩ := h.cells i hi
    exact ⟨b, off, x, m, k, e1, Nat.lt_of_lt_of_le e2 hb.size, (World.cell?_of_block (hb.block b (by omega))).trans e3, (World.cell?_of_block (hb.block b (by omega))).trans e4, ⟨e5.kept hb hB, e6⟩, e7⟩⟩
/-- .. when blocks turn that are none of its. -/
theorem HasU.off {w w' : World} {x : Option Addr} {m k : Nat} {l : List Int} (h : HasU w x m k l) (hs : w.heap.size ≤ w'.heap.size) (hb : ∀ q, 0 < m → (Value.slice x m k).ownBlock = some q → q < w.heap.size → w'.heap[q]? = w.heap[q]?) : HasU w' x m k l := by
  refine ⟨h.hlen, h.le, h.capb, h.nil, fun hp => ?_, h.range⟩
  obtain ⟨b, off, e1, e2, e3⟩ := h.cells hp
  exact ⟨b, off, e1, Nat.lt_of_lt_of_le e2 hs, fun i hi => (World.cell?_of_block (hb b hp (by rw [e1]; rfl) e2)).trans (e3 i hi)⟩
theorem HasE.off {No : Nat → Prop} {w w' : World} {a : Option Addr} {n c : Nat} {E : List Ent} (h : HasE No w a n c E) (hs : w.heap.size ≤ w'.heap.size) (hb : ∀ q, q < w.heap.size → ¬ No q → w'.heap[q]? = w.heap[q]?) : HasE No w' a n c E :=
  ⟨h.hlen, h.le, h.capb, fun i hi => by
    obtain ⟨b, off, x, m, k, e1, e2, e3, e4, ⟨e5, e6⟩, e7⟩ := h.cells i hi
    exact ⟨b, off, x, m, k, e1, Nat.lt_of_lt_of_le e2 hs, (World.cell?_of_block (hb b e2 e7)).trans e3, (World.cell?_of_block (hb b e2 e7)).trans e4, ⟨e5.off hs (fun q hm hq hl => hb q hl (e6 q hm hq)), e6⟩, e7⟩⟩
theorem HasU.lt {w : World} {x : Option Addr} {m k q : Nat} {l : List Int} (h : HasU w x m k l) (hm : 0 < m) (hq : (Value.slice x m k).ownBlock = some q) : q < w.heap.size := by
  obtain ⟨b, off, e1, e2, _⟩ := h.cells hm
  rw [e1] at hq
  cases hq
  exact e2
theorem hasE_nil (No : Nat → Prop) (w : World) : HasE No w none 0 0 [] := ⟨rfl, Nat.le_refl _, Nat.zero_le _, fun i hi => by omega⟩
/-- The reference's index in block g. -/
def Rx (No : Nat → Prop) (w : World) (g : Nat) (E : List Ent) : Prop := ¬ No g ∧ ∃ a n c, w.heap[g]? = some (.cells #[.slice a n c] 50 (0, 0)) ∧ HasE No w a n c E
theorem lk_at {E : List Ent} {k : Str} : ∀ {i : Nat}, (∀ j, j < i → (E.getD j dE).1 ≠ k) → i < E.length → (E.getD i dE).1 = k → lk E k = (E.getD i dE).2 := by
  induction E with
  | nil => intro i _ hi; simp at hi
  | cons e r ih =>
    intro i h hi he
    cases i with
    | zero => simp only [List.getD_cons_zero] at he ⊢; simp only [lk, if_pos he]
    | succ i =>
      have h0 := h 0 (by omega)
      simp only [List.getD_cons_zero] at h0
      simp only [List.getD_cons_succ] at he ⊢
      simp only [lk, if_neg h0]
      exact ih (fun j hj => by have := h (j + 1) (by omega); simpa only [List.getD_cons_succ] using this) (by simpa using hi) he
theorem lk_no {E : List Ent} {k : Str} (h : ∀ j, j < E.length → (E.getD j dE).1 ≠ k) : lk E k = [] := by
  induction E with
  | nil => rfl
  | cons e r ih =>
    have h0 := h 0 (by simp)
    simp only [List.getD_cons_zero] at h0
    simp only [lk, if_neg h0]
    exact ih (fun j hj => by have := h (j + 1) (by simpa using hj); simpa only [List.getD_cons_succ] using this)
theorem keys_eq {a b : Str} (h : a = b) : (a.toList == b.toList) = true := by simp [h]
theorem keys_ne {a b : Str} (h : ¬ a = b) : (a.toList == b.toList) = false := by
  cases e : (a.toList == b.toList) with
  | false => rfl
  | true => exact (h ((str_ext a b).1 (by simpa using e))).elim
set_option maxHeartbeats 4000000 in
set_option maxRecDepth 100000 in
theorem rlist_any (No : Nat → Prop) (w : World) (g : Nat) (E : List Ent) (key : Str) (h : Rx No w g E) (hE : E.length ≤ 1000) (hs : ∀ e ∈ E, e.2.length ≤ 1000000) :
    Calls Try.prog 38 #[.pointer (some ⟨g, 0, none⟩), .string key] w (RetU w (lk E key)) := by
  obtain ⟨_, a, n, c, hg, H⟩ := h
  have hl := hide H.hlen
  have i1 : (n : Int) ≤ 1000 := by have := H.hlen; omega
  have cg : w.cell? ⟨g, 0, none⟩ = some (.slice a n c) := cell_row hg 0 rfl
  have hgl : g < w.heap.size := (Array.getElem?_eq_some_iff.1 hg).1
  replace hg := hide hg
  replace H := hide H
  replace hs := hide hs
  go_enter Try.func38, Try.ntmps38
  go_wp2_with fail
  go_loopw [5] (fun vi wr => ∃ i : Nat, i ≤ n ∧ vi = .int .i64 (i : Int) ∧ Hid (∀ j, j < i → (E.getD j dE).1 ≠ key) ∧ Hid (wr = w)) (fun vi _ => n - (intOf vi).toNat)
  case atStart => exact ⟨0, Nat.zero_le _, rfl, (fun j hj => by omega : ∀ j, j < 0 → (E.getD j dE).1 ≠ key), (rfl : _ = _)⟩
  case round =>
    obtain ⟨i, hi, rfl, hno, hw⟩ := hrel
    obtain rfl := hw.out
    by_cases hlt : i < n
    · have j1 : (i : Int) < (n : Int) := by omega
      have j2 : (0 : Int) ≤ (i : Int) := by omega
      obtain ⟨b, off, x, m, k, rfl, hb, c1, c2, ⟨HU, _⟩, _⟩ := H.out.cells i hlt
      have hil : i < E.length := by rw [hl.out]; exact hlt
      have hmem : E.getD i dE ∈ E := by
        rw [show E.getD i dE = E[i] by simp [List.getD, List.getElem?_eq_getElem hil]]
        exact List.getElem_mem _
      have hml := hs.out _ hmem
      have hat := hide (fun e => lk_at (k := key) hno.out hil e)
      have hnx : Hid ((E.getD i dE).1 ≠ key → ∀ j, j < i + 1 → (E.getD j dE).1 ≠ key) := fun e j hj => by
        rcases Nat.lt_or_ge j i with h | h
        · exact hno.out j h
        · obtain rfl : j = i := by omega
          exact e
      clear hmem hil
      generalize E.getD i dE = t at *
      by_cases he : t.1 = key
      · have k2 := keys_eq he
        have hm := HU.hlen
        have hH := hide (HU.kept ((Below.refl wr.heap.size wr).alloc (Nat.le_refl _) (.cells #[] 24)) (Nat.le_refl _))
        have hB : Hid (Below wr.heap.size wr (wr.alloc (.cells #[] 24))) := (Below.refl _ _).alloc (Nat.le_refl _) _
        have O := hide (owns_empty wr)
        replace hat := hide (hat.out he)
        replace he := hide he
        replace HU := hide HU
        have d1 : (wr.alloc (.cells #[] 24)).cell? ⟨g, 0, none⟩ = some (.slice (some ⟨b, off, none⟩) n c) := (hB.out.cell (p := ⟨g, 0, none⟩) hgl).trans cg
        have d2 : (wr.alloc (.cells #[] 24)).cell? ⟨b, off + i * 2 + 1, none⟩ = some (.slice x m k) := (hB.out.cell (p := ⟨b, off + i * 2 + 1, none⟩) hb).trans c2
        go_wp2_with (first | (at_builtin; refine wpList_appU rfl (.tmp 25) (.tmp 33) rfl wr.heap.size _ rfl O.out x m k t.2 rfl hH.out (by omega) (by simp) ?_; intro a' c' w' h1 h2 h3; replace h1 := hide h1; replace h2 := hide h2; replace h3 := hide h3))
        go_ret
        exact ⟨a', m, c', rfl, hat.out ▸ h1.out, hB.out.trans h2.out, fun k hk => (h3.out.lt k hk).1⟩
      · have k2 := keys_ne he
        replace hnx := hide (hnx.out he)
        replace he := hide he
        replace HU := hide HU
        go_wp2_with fail
        go_roundw
        case rel => exact ⟨i + 1, by omega, by go_num, hnx, trivial⟩
        case measure => simp [intOf]; omega
    · obtain rfl : i = n := by omega
      have j1 : ¬ (i : Int) < (i : Int) := by omega
      have hz := hide (lk_no (E := E) (k := key) (fun j hj => hno.out j (by rw [← hl.out]; exact hj)))
      go_wp2_with fail
      go_ret
      exact ⟨none, 0, 0, rfl, hz.out ▸ hasU_nil _, Below.refl _ _, fun k hk => (by cases hk)⟩
end Go.Proofs.Ythkfbdcocnhebaa
