/-
  lastOfEach and Sort of labels in general: what stands then is a row of labels, and Check decides.
-/
import Derived.Test.YtfkjdibhnabkaaaAI
import Derived.Test.YtfkjdibhnabkaaaAK
namespace Go.Proofs.Ytfkjdibhnabkaaa
open Go.RowKit Go.Shelf Go.Lib
set_option linter.unusedVariables false
set_option linter.unusedSimpArgs false

theorem RowS.less {w : World} {g n k : Nat} (h : RowS w g n) (hk : k ≤ n) : RowS w g k := ⟨h.1, fun j hj => h.2 j (by omega)⟩
theorem RowS.hasB {w : World} {g n cap : Nat} (h : RowS w g n) (hc : n ≤ cap) (hm : cap ≤ maxLen) : ∃ R : List Lab, R.length = n ∧ HasB w (some ⟨g, 0, none⟩) n cap R := by
  obtain ⟨L, hL, hH⟩ := h.holds
  have := hasB_of_holdsK hH h.1 (by omega) hm
  rw [hL] at this
  exact ⟨L, hL, this⟩

set_option maxHeartbeats 2000000 in
theorem last_row (w : World) (base : Nat) (v : Value) (F : List Lab) (h : w.ownsRow base 39 2 v F.length (flat F)) (hlt : F.length ≤ 1000) (hbs : base ≤ w.heap.size) :
    Calls Try.prog 23 #[v] w fun e w' => ∃ a cap, ∃ R : List Lab, e = .returned (.slice a R.length cap) ∧ HasB w' a R.length cap R ∧ R.length ≤ F.length ∧ Below base w w' := by
  by_cases h0 : F.length = 0
  · obtain rfl : F = [] := List.eq_nil_of_length_eq_zero h0
    refine (last_apart w base v [] h List.Pairwise.nil (by simp) hbs).mono ?_
    rintro e w' ⟨a, cap, R, rfl, H, pR, aR, B⟩
    exact ⟨a, cap, R, rfl, H, by rw [pR.length_eq]; exact Nat.le_refl _, B⟩
  · obtain ⟨g, cap, rfl, hb, hg, hc, hm, _, hH⟩ := holdsK_of_owns h (by omega)
    have e1 : F.toArray.size = F.length := by simp
    have e2 : F.toArray.reverse.size = F.length := by simp
    have r1 := reverse_arr g 0 cap F.toArray w hH (by omega)
    rw [e1] at r1
    replace r1 := hide r1
    have hRd : Hid (∀ W : World, RowS W g F.length → Calls Try.prog 32 #[.slice (some ⟨g, 0, none⟩) F.length cap, .func (.func 33) #[] #[]] W fun e w' => e = .returned (.tuple #[]) ∧ RowS w' g F.length ∧ Below base W w') := fun W h1 => sortN_row W g F.length cap base h1 hb hlt
    have hcp : Hid (∀ W : World, RowS W g F.length → Calls Try.prog 34 #[.slice (some ⟨g, 0, none⟩) F.length cap, .func (.func 35) #[] #[]] W fun e w' => ∃ k, k ≤ F.length ∧ e = .returned (.slice (some ⟨g, 0, none⟩) k cap) ∧ RowS w' g F.length ∧ Below base W w') := fun W h1 => compact_row W g F.length cap base h1 hb hlt hc hm
    have row1 : Hid (∀ W, Sort.HoldsK encL 2 W g 0 F.toArray.reverse → g < W.heap.size → RowS W g F.length) := fun W h1 h2 => by
      have := rowS_of_holds h1 h2
      rwa [e2] at this
    clear h e1 e2
    generalize F.length = n at *
    go_enter Try.func23, Try.ntmps23
    go_wp2_with fail
    refine r1.out.mono ?_
    rintro e W1 ⟨rfl, m1, hW1⟩
    have B1 : Below base w W1 := by rw [hW1]; exact below_putRowK w _ hb
    have H1 : Sort.HoldsK encL 2 W1 g 0 F.toArray.reverse := by rw [hW1]; exact Sort.holdsK_putRowK _ _ _ _ _ F.toArray _ (show Sort.HoldsK encL 2 (Sort.ahead w m1) g 0 _ from hH) (by simp)
    have R1 := hide (row1.out W1 H1 (Nat.lt_of_lt_of_le hg B1.size))
    replace B1 := hide B1
    clear hW1 r1 H1 row1
    go_wp2_with fail
    refine (hRd.out W1 R1.out).mono ?_
    rintro e W2 ⟨rfl, R2, B2⟩
    replace R2 := hide R2
    replace B2 := hide (B1.out.trans B2)
    clear hRd R1
    go_wp2_with fail
    refine (hcp.out W2 R2.out).mono ?_
    rintro e W3 ⟨k, hk, rfl, R3, B3⟩
    replace R3 := hide R3
    replace B3 := hide (B2.out.trans B3)
    clear hcp R2
    go_wp2_with fail
    go_ret
    obtain ⟨R, hR, HR⟩ := (R3.out.less hk).hasB (cap := cap) (by omega) hm
    exact ⟨some ⟨g, 0, none⟩, cap, R, by rw [hR]; rfl, by rw [hR]; exact HR, by omega, B3.out⟩

set_option maxHeartbeats 2000000 in
theorem sort_row (w : World) (a : Option Addr) (len cap : Nat) (L : List Lab) (h : HasB w a len cap L) (hl : len ≤ 1000) :
    Calls Try.prog 13 #[.slice a len cap] w fun e w' => (e = .returned (.tuple #[.slice none 0 0, .int .i64 40]) ∨ ∃ R a' cap', chkB R = true ∧ e = .returned (.tuple #[.slice a' R.length cap', .int .i64 0]) ∧ HasB w' a' R.length cap' R) ∧ Below w.heap.size w w' := by
  have r1 := hide (filled_any w a len cap _ h hl)
  have hfl : (filB L).length ≤ 1000 := by have := h.hlen; have : (filB L).length ≤ L.length := List.length_filter_le _ _; omega
  clear h
  go_enter Try.func13, Try.ntmps13
  go_wp2_with fail
  refine r1.out.mono ?_
  rintro e W1 ⟨v1, rfl, O1, B1⟩
  have r2 := hide (last_row W1 w.heap.size v1 (filB L) O1 hfl B1.size)
  replace B1 := hide B1
  clear O1 r1
  go_wp2_with fail
  refine r2.out.mono ?_
  rintro e W2 ⟨a2, cap2, R, rfl, H2, lR, B2⟩
  have r3 := check_any W2 _ R.length cap2 R H2
  replace H2 := hide H2
  have B2' := hide (B1.out.trans B2)
  clear r2 B1 B2
  by_cases hc : chkB R = true
  · rw [errB_yes hc] at r3
    replace r3 := hide r3
    go_wp2_with fail
    refine r3.out.mono ?_
    rintro e W3 ⟨rfl, B3⟩
    replace B3 := hide B3
    go_wp2_with fail
    go_ret2
    exact ⟨.inr ⟨R, a2, cap2, hc, rfl, H2.out.kept B3.out (Nat.le_refl _)⟩, B2'.out.trans (B3.out.mono B2'.out.size)⟩
  · replace hc : chkB R = false := by simpa using hc
    rw [errB_no hc] at r3
    replace r3 := hide r3
    go_wp2_with fail
    refine r3.out.mono ?_
    rintro e W3 ⟨rfl, B3⟩
    replace B3 := hide B3
    go_wp2_with fail
    go_ret2
    exact ⟨.inl rfl, B2'.out.trans (B3.out.mono B2'.out.size)⟩

theorem among_val (x : Int) (n : Nat) (h1 : 1 ≤ n) : 0 ≤ (IntKind.u64.wrap x).tmod (n : Int) ∧ (IntKind.u64.wrap x).tmod (n : Int) < (n : Int) := by
  rw [IntKind.wrap_u64]
  have h : 0 ≤ x % 18446744073709551616 := Int.emod_nonneg _ (by decide)
  rw [Int.tmod_eq_emod_of_nonneg h]
  exact ⟨Int.emod_nonneg _ (by omega), Int.emod_lt_of_pos _ (by omega)⟩
theorem among_wrap (y : Int) {n : Nat} (v : 0 ≤ y ∧ y < (n : Int)) (h2 : n ≤ 9223372036854775807) : wrap64 y = ((y.toNat : Nat) : Int) := by
  unfold wrap64
  omega
def amg (x : Int) (n : Nat) : Nat := ((IntKind.u64.wrap x).tmod (n : Int)).toNat
theorem amg_lt (x : Int) (n : Nat) (h1 : 1 ≤ n) : amg x n < n := by have := among_val x n h1; unfold amg; omega
theorem ret_num {x y : Int} (h : x = y) : Ending.returned (.int .i64 x) = Ending.returned (.int .i64 y) := by rw [h]
set_option maxHeartbeats 400000 in
theorem among_any (x : Int) (n : Nat) (hx : -9223372036854775808 ≤ x ∧ x ≤ 9223372036854775807) (h1 : 1 ≤ n) (h2 : n ≤ 9223372036854775807) (w : World) :
    Calls Try.prog 14 #[.int .i64 x, .int .i64 (n : Int)] w fun e w' => e = .returned (.int .i64 (amg x n : Int)) ∧ w' = w := by
  have hn : (1 : Int) ≤ (n : Int) := by omega
  have hn' : (n : Int) ≤ 9223372036854775807 := by omega
  go_enter Try.func14, Try.ntmps14
  go_wp2
  go_ret
  have v := among_val x n h1
  exact ⟨ret_num (among_wrap _ v h2), rfl⟩
end Go.Proofs.Ytfkjdibhnabkaaa
