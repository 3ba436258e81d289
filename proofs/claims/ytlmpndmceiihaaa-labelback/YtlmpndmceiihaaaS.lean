/-
  lastOfEach of works' three labels.
-/
import Derived.Test.YtlmpndmceiihaaaR
namespace Go.Proofs.Ytlmpndmceiihaaa
open Go.RowKit Go.Shelf Go.Lib
set_option linter.unusedVariables false
set_option linter.unusedSimpArgs false

def sA : Str := ⟨#[97]⟩
def sB : Str := ⟨#[98]⟩
def n1 : Str := ⟨#[49]⟩
def n2 : Str := ⟨#[50]⟩
def n3 : Str := ⟨#[51]⟩
theorem rev_three : (#[(sB, n2), (sA, n1), (sB, n3)] : Array Lab).reverse = #[(sB, n3), (sA, n1), (sB, n2)] := by simp
theorem sort_three : Sort.insertionSort (ltOf cmpN) #[(sB, n3), (sA, n1), (sB, n2)] 0 3 = #[(sA, n1), (sB, n3), (sB, n2)] := by decide +kernel
theorem sortWorldK_below {w : World} {g n base : Nat} (d : Array Lab) (os : Array Obj) (h : base ≤ g) (hg : g < w.heap.size) : Below base w (sortWorldK encL 2 w g 0 n d os) := by
  unfold sortWorldK
  refine (below_putRowK (n := n) w d h).trans ?_
  refine ⟨rfl, rfl, rfl, by simp [Sort.grow], fun k hk => ?_⟩
  have hs : (Sort.putRowK encL 2 (Sort.ahead w n) g 0 d).heap.size = w.heap.size := by simp [Sort.putRowK, Sort.ahead]
  simp only [Sort.grow]
  rw [Array.getElem?_append_left (by omega)]
theorem sortWorldK_holds {w : World} {g n : Nat} (d0 d : Array Lab) (os : Array Obj) (h0 : Sort.HoldsK encL 2 w g 0 d0) (hs : d.size = d0.size) (hg : g < w.heap.size) : Sort.HoldsK encL 2 (sortWorldK encL 2 w g 0 n d os) g 0 d := by
  unfold sortWorldK
  refine Sort.holdsK_grow _ _ _ _ _ _ _ (by simpa [Sort.putRowK, Sort.ahead] using hg) ?_
  exact Sort.holdsK_putRowK _ _ _ _ _ d0 _ (show Sort.HoldsK encL 2 (Sort.ahead w n) g 0 d0 from h0) hs
theorem cells_holdsK {w : World} {g : Nat} {x y z : Lab} (h : Sort.HoldsK encL 2 w g 0 #[x, y, z]) :
    (w.cell? ⟨g, 0, none⟩ = some (.string x.1) ∧ w.cell? ⟨g, 1, none⟩ = some (.string x.2)) ∧ (w.cell? ⟨g, 2, none⟩ = some (.string y.1) ∧ w.cell? ⟨g, 3, none⟩ = some (.string y.2)) ∧ (w.cell? ⟨g, 4, none⟩ = some (.string z.1) ∧ w.cell? ⟨g, 5, none⟩ = some (.string z.2)) ∧ w.frozen? ⟨g, 4, none⟩ = false ∧ w.frozen? ⟨g, 5, none⟩ = false := by
  have e (j : Nat) (hj : j < 6) := h j (by rw [Sort.size_flatK]; exact hj)
  have a (j : Nat) (hj : j < 6) : w.cell? ⟨g, j, none⟩ = some ((encL (#[x, y, z] : Array Lab)[j / 2]!)[j % 2]!) := by
    have h1 := (e j hj).1
    rw [Sort.get_flatK _ _ _ _ hj, Nat.zero_add] at h1
    exact h1
  have f (j : Nat) (hj : j < 6) : w.frozen? ⟨g, j, none⟩ = false := by have h1 := (e j hj).2; rwa [Nat.zero_add] at h1
  exact ⟨⟨a 0 (by omega), a 1 (by omega)⟩, ⟨a 2 (by omega), a 3 (by omega)⟩, ⟨a 4 (by omega), a 5 (by omega)⟩, f 4 (by omega), f 5 (by omega)⟩
set_option maxHeartbeats 2000000 in
theorem last_three (w : World) (base : Nat) (v : Value) (h : w.ownsRow base 38 2 v 3 (flat [(sB, n2), (sA, n1), (sB, n3)])) :
    Calls Try.prog 19 #[v] w fun e w' => ∃ g cap, e = .returned (.slice (some ⟨g, 0, none⟩) 2 cap) ∧ HasB w' (some ⟨g, 0, none⟩) 2 cap [(sA, n1), (sB, n3)] ∧ Below base w w' := by
  obtain ⟨g, cap, rfl, hb, hg, hc, hm, _, hH⟩ := holdsK_of_owns h (by omega)
  clear h
  have r1 := reverse_arr g 0 cap #[(sB, n2), (sA, n1), (sB, n3)] w hH (by simp)
  rw [rev_three] at r1
  replace r1 := hide r1
  go_enter Try.func19, Try.ntmps19
  go_wp2_with (first
    | (go_at_call 30; refine r1.out.mono ?_; rintro e W1 ⟨rfl, m1, hW1⟩
       have B1 : Below base w W1 := by rw [hW1]; exact below_putRowK w _ hb
       have H1 : Sort.HoldsK encL 2 W1 g 0 #[(sB, n3), (sA, n1), (sB, n2)] := by rw [hW1]; exact Sort.holdsK_putRowK _ _ _ _ _ #[(sB, n2), (sA, n1), (sB, n3)] _ (show Sort.HoldsK encL 2 (Sort.ahead w m1) g 0 _ from hH) rfl
       clear hW1
       have g1 : g < W1.heap.size := Nat.lt_of_lt_of_le hg B1.size
       replace B1 := hide B1
       have r2 := hide (sortN_any g cap #[(sB, n3), (sA, n1), (sB, n2)] W1 H1 g1 (by decide))
       replace H1 := hide H1)
    | (go_at_call 31; refine r2.out.mono ?_; rintro e W2 ⟨rfl, m2, os2, hW2⟩
       have B2 : Below base W1 W2 := by rw [hW2]; exact sortWorldK_below _ _ hb g1
       have H2 : Sort.HoldsK encL 2 W2 g 0 #[(sA, n1), (sB, n3), (sB, n2)] := by rw [hW2, show (#[(sB, n3), (sA, n1), (sB, n2)] : Array Lab).size = 3 from rfl, sort_three]; exact sortWorldK_holds #[(sB, n3), (sA, n1), (sB, n2)] _ _ H1.out rfl g1
       clear hW2
       have g2 : g < W2.heap.size := Nat.lt_of_lt_of_le g1 B2.size
       obtain ⟨⟨c0, c1⟩, ⟨c2, c3⟩, ⟨c4, c5⟩, f4, f5⟩ := cells_holdsK H2
       have r3 := hide (compact_three W2 g cap (sA, n1) (sB, n3) (sB, n2) hc hm c0 c1 c2 c3 c4 c5 f4 f5 g2 (by decide +kernel) rfl)
       replace B2 := hide B2
       clear c0 c1 c2 c3 c4 c5 f4 f5 H2)
    | (go_at_call 34; refine r3.out.mono ?_; rintro e W3 ⟨rfl, H3, B3⟩; replace H3 := hide H3; replace B3 := hide B3))
  go_ret
  exact ⟨g, cap, rfl, H3.out, (B1.out.trans B2.out).trans (B3.out.mono hb)⟩
end Go.Proofs.Ytlmpndmceiihaaa
