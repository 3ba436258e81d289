/-
  Rows of labels as arrays; slices.Reverse by the shelf's contract.
-/
import Derived.Test.YtlmpndmceiihaaaK
import Derived.Shelf.SlicesQ.Reverse
import Derived.Ground.SlgnProg
namespace Go.Proofs.Ytlmpndmceiihaaa
open Go.RowKit Go.Shelf Go.Lib
set_option linter.unusedVariables false
set_option linter.unusedSimpArgs false

shelf_lay_g SlLaysE0.n35 Slgn 35 at Try 30 as Try.reverseLab
def encL (x : Lab) : List Value := [.string x.1, .string x.2]
theorem encL_len (x : Lab) : (encL x).length = 2 := rfl
theorem encL_one (x : Lab) : ∀ v ∈ encL x, v.oneCell' = true := fun v hv => by
  simp [encL] at hv
  rcases hv with rfl | rfl <;> rfl
theorem isAgg39 : ∀ w, (isAgg 38).run Try.prog w = .ok true w := fun w => by kernel_rfl
theorem sizeOf39 : ∀ w, (Go.sizeOf 38).run Try.prog w = .ok 2 w := fun w => by kernel_rfl
instance : Inhabited Lab := ⟨noLab⟩
theorem reverse_arr (blk off cap : Nat) (d : Array Lab) (w : World) (hH : Sort.HoldsK encL 2 w blk off d) (hsz : d.size ≤ 9223372036854775807) :
    Calls Try.prog 30 #[.slice (some ⟨blk, off, none⟩) d.size cap] w fun e w' => e = .returned (.tuple #[]) ∧ ∃ n, w' = Sort.putRowK encL 2 (Sort.ahead w n) blk off d.reverse :=
  AnyQ.slices_Reverse Try.reverseLab 2 isAgg39 sizeOf39 encL encL_len encL_one blk off cap d w hH hsz
theorem reverse_none (a : Option Addr) (cap : Nat) (w : World) : Calls Try.prog 30 #[.slice a 0 cap] w fun e w' => e = .returned (.tuple #[]) ∧ w' = w :=
  AnyQ.slices_Reverse_empty Try.reverseLab a cap w
theorem getB! (L : List Lab) (i : Nat) (h : i < L.length) : L.toArray[i]! = L.getD i noLab := by
  simp [List.getD, List.getElem?_eq_getElem h, h]
/-- A row of labels that is one's own, as an array. -/
theorem holdsK_of_owns {w : World} {base : Nat} {v : Value} {n : Nat} {L : List Lab} (h : w.ownsRow base 38 2 v n (flat L)) (h0 : 0 < n) :
    ∃ g cap, v = .slice (some ⟨g, 0, none⟩) n cap ∧ base ≤ g ∧ g < w.heap.size ∧ n ≤ cap ∧ cap ≤ maxLen ∧ L.length = n ∧ Sort.HoldsK encL 2 w g 0 L.toArray := by
  obtain ⟨a, cap', e, H⟩ := hasB_of_owns h
  obtain ⟨hl, h2⟩ := h
  rcases h2 with ⟨rfl, h3⟩ | ⟨g, cap, cur, rfl, hb, hg, hnc, hcm, hcs, ht⟩
  · omega
  · cases e
    have hlt : g < w.heap.size := (Array.getElem?_eq_some_iff.1 hg).1
    refine ⟨g, _, rfl, hb, hlt, hnc, hcm, H.hlen, ?_⟩
    obtain ⟨b, off, e1, _, e3⟩ := H.cells h0
    cases e1
    have hll := H.hlen
    intro j hj
    rw [Sort.size_flatK, List.size_toArray] at hj
    rw [Sort.get_flatK _ _ _ _ (by simpa using hj)]
    refine ⟨?_, by simp [World.frozen?, hg]⟩
    have hi : j / 2 < L.length := by omega
    rw [getB! L _ hi]
    have h5 := e3 (j / 2) (by omega)
    rcases Nat.mod_two_eq_zero_or_one j with h6 | h6
    · rw [h6, show 0 + j = 0 + j / 2 * 2 by omega]; exact h5.1
    · rw [h6, show 0 + j = 0 + j / 2 * 2 + 1 by omega]; exact h5.2
theorem hasB_of_holdsK {w : World} {g cap : Nat} {L : List Lab} (h : Sort.HoldsK encL 2 w g 0 L.toArray) (hg : g < w.heap.size) (hc : L.length ≤ cap) (hm : cap ≤ maxLen) : HasB w (some ⟨g, 0, none⟩) L.length cap L := by
  refine ⟨rfl, hc, hm, (fun e => nomatch e), (fun _ => ⟨g, 0, rfl, hg, fun i hi => ?_⟩)⟩
  have a0 := (h (i * 2) (by rw [Sort.size_flatK, List.size_toArray]; omega)).1
  have a1 := (h (i * 2 + 1) (by rw [Sort.size_flatK, List.size_toArray]; omega)).1
  rw [Sort.get_flatK _ _ _ _ (by rw [List.size_toArray]; omega)] at a0 a1
  rw [show i * 2 / 2 = i by omega, show i * 2 % 2 = 0 by omega, getB! L _ hi] at a0
  rw [show (i * 2 + 1) / 2 = i by omega, show (i * 2 + 1) % 2 = 1 by omega, getB! L _ hi] at a1
  exact ⟨a0, a1⟩
theorem below_putRowK {base g n : Nat} (w : World) (d : Array Lab) (h : base ≤ g) : Below base w (Sort.putRowK encL 2 (Sort.ahead w n) g 0 d) := by
  refine ⟨rfl, rfl, rfl, by simp [Sort.putRowK, Sort.ahead], fun k hk => ?_⟩
  unfold Sort.putRowK Sort.putRow Sort.mapBlock Sort.ahead
  simp only [Array.getElem?_modify]
  rw [if_neg (by omega)]
end Go.Proofs.Ytlmpndmceiihaaa
