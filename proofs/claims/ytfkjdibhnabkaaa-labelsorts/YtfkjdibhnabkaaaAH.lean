/-
  symMerge, of which only this is said: that it ends, and leaves labels.
-/
import Derived.Test.YtfkjdibhnabkaaaAG
namespace Go.Proofs.Ytfkjdibhnabkaaa
open Go.RowKit Go.Shelf Go.Lib
set_option linter.unusedVariables false
set_option linter.unusedSimpArgs false

theorem cmp_any (x y : Lab) (w : World) : Calls Try.prog 33 #[.agg #[.string x.1, .string x.2], .agg #[.string y.1, .string y.2]] w fun e w' => e = .returned (.int .i64 (s3 x.1 y.1)) ∧ Below w.heap.size w w' := by
  refine (byName_any x y w).mono ?_
  rintro e w' ⟨rfl, rfl⟩
  exact ⟨rfl, ((Below.refl _ w).alloc (Nat.le_refl _) _).alloc (by simp) _⟩
/-- Two labels of a row, for a comparison. -/
theorem RowS.two {w : World} {g n : Nat} (h : RowS w g n) (p q : Nat) (hp : p < n) (hq : q < n) : ∃ x0 x1 y0 y1 : Str, ((w.cell? ⟨g, p * 2, none⟩ = some (.string x0) ∧ w.cell? ⟨g, p * 2 + 1, none⟩ = some (.string x1)) ∧ w.cell? ⟨g, q * 2, none⟩ = some (.string y0) ∧ w.cell? ⟨g, q * 2 + 1, none⟩ = some (.string y1)) := by
  obtain ⟨x, a0, a1, _⟩ := h.at p hp
  obtain ⟨y, b0, b1, _⟩ := h.at q hq
  exact ⟨x.1, x.2, y.1, y.2, ⟨a0, a1⟩, b0, b1⟩
theorem two_kept {w w' : World} {g p q : Nat} {x0 x1 y0 y1 : Str} (h : (w.cell? ⟨g, p * 2, none⟩ = some (.string x0) ∧ w.cell? ⟨g, p * 2 + 1, none⟩ = some (.string x1)) ∧ w.cell? ⟨g, q * 2, none⟩ = some (.string y0) ∧ w.cell? ⟨g, q * 2 + 1, none⟩ = some (.string y1)) (hb : Below w.heap.size w w') (hg : g < w.heap.size) :
    (w'.cell? ⟨g, p * 2, none⟩ = some (.string x0) ∧ w'.cell? ⟨g, p * 2 + 1, none⟩ = some (.string x1)) ∧ w'.cell? ⟨g, q * 2, none⟩ = some (.string y0) ∧ w'.cell? ⟨g, q * 2 + 1, none⟩ = some (.string y1) :=
  ⟨⟨(hb.cell (p := ⟨g, p * 2, none⟩) hg).trans h.1.1, (hb.cell (p := ⟨g, p * 2 + 1, none⟩) hg).trans h.1.2⟩, (hb.cell (p := ⟨g, q * 2, none⟩) hg).trans h.2.1, (hb.cell (p := ⟨g, q * 2 + 1, none⟩) hg).trans h.2.2⟩

set_option maxRecDepth 100000 in
set_option maxHeartbeats 8000000 in
theorem sym_left (w : World) (g n cap base a m b : Nat) (h : RowS w g n) (hg : base ≤ g) (hn : n ≤ 1000) (h1 : a + 1 = m) (h2 : m < b) (h3 : b ≤ n) :
    Calls Try.prog 45 #[.slice (some ⟨g, 0, none⟩) n cap, .int .i64 (a : Int), .int .i64 (m : Int), .int .i64 (b : Int), .func (.func 33) #[] #[]] w fun e w' => e = .returned (.tuple #[]) ∧ RowS w' g n ∧ Below base w w' := by
  replace h := hide h
  have e0 : (m : Int) - (a : Int) = 1 := by omega
  go_enter Try.func45, Try.ntmps45
  go_wp2_with fail
  go_loopw [10, 11, 12] (fun ii jj hh wr => ∃ (I J : Nat), m ≤ I ∧ I ≤ J ∧ J ≤ b ∧ ii = .int .i64 (I : Int) ∧ jj = .int .i64 (J : Int) ∧ Hid (RowS wr g n) ∧ Hid (Below base w wr)) (fun ii jj _ _ => (intOf jj).toNat - (intOf ii).toNat)
  case atStart => exact ⟨m, b, Nat.le_refl _, by omega, Nat.le_refl _, rfl, rfl, h, Below.refl _ _⟩
  case round =>
    clear h
    obtain ⟨I, J, hI, hIJ, hJ, rfl, rfl, hR, hB⟩ := hrel
    by_cases hlt : I < J
    · have i1 : (I : Int) < (J : Int) := by omega
      obtain ⟨H, hH⟩ : ∃ H, (I + J) / 2 = H := ⟨_, rfl⟩
      have e1 : ((I : Int) + (J : Int)) / 2 = (H : Int) := by omega
      have hH1 : I ≤ H := by omega
      have hH2 : H < J := by omega
      have wH := wrapN H (by omega)
      obtain ⟨x0, x1, y0, y1, hc4⟩ := hR.out.drew.two H a (by omega) (by omega)
      have hcall := hide (fun W => cmp_any (x0, x1) (y0, y1) W)
      have hgw := hide hR.out.1
      have wP := wrapN H (by omega)
      have wQ := wrapN a (by omega)
      have p1 : (H : Int) < (n : Int) := by omega
      have q1 : (a : Int) < (n : Int) := by omega
      have p2 : (0 : Int) ≤ (H : Int) := by omega
      have q2 : (0 : Int) ≤ (a : Int) := by omega
      simp only at hcall
      generalize s3 x0 y0 = z at hcall
      clear hH
      by_cases hz : z < 0
      · have hz1 : decide (z < 0) = true := by simp; omega
        go_wp2_with fail
        go_region_held3 (fun w' => (w'.cell? ⟨g, H * 2, none⟩ = some (.string x0) ∧ w'.cell? ⟨g, H * 2 + 1, none⟩ = some (.string x1)) ∧ w'.cell? ⟨g, a * 2, none⟩ = some (.string y0) ∧ w'.cell? ⟨g, a * 2 + 1, none⟩ = some (.string y1)) (first | (exact hc4) | (exact E3)) (first
          | (go_at_call 33; refine (hcall.out _).mono ?_; rintro e W3 ⟨rfl, hW3⟩
             have E3 := two_kept hc4 hW3 hgw.out
             have B3 := hide (hB.out.trans ((Below.ofdrew hW3).mono (by have := hgw.out; omega : base ≤ wr.heap.size)))
             have R3 := hide (hR.out.drew.below hW3 hgw.out)
             clear hW3))
        clear E3 hc4 hcall
        go_wp2_with fail
        go_roundw
        case rel => exact ⟨H + 1, J, by omega, by omega, hJ, by go_num, rfl, R3, B3⟩
        case measure => simp [intOf]; omega
      · have hz1 : decide (z < 0) = false := by simp; omega
        go_wp2_with fail
        go_region_held3 (fun w' => (w'.cell? ⟨g, H * 2, none⟩ = some (.string x0) ∧ w'.cell? ⟨g, H * 2 + 1, none⟩ = some (.string x1)) ∧ w'.cell? ⟨g, a * 2, none⟩ = some (.string y0) ∧ w'.cell? ⟨g, a * 2 + 1, none⟩ = some (.string y1)) (first | (exact hc4) | (exact E3)) (first
          | (go_at_call 33; refine (hcall.out _).mono ?_; rintro e W3 ⟨rfl, hW3⟩
             have E3 := two_kept hc4 hW3 hgw.out
             have B3 := hide (hB.out.trans ((Below.ofdrew hW3).mono (by have := hgw.out; omega : base ≤ wr.heap.size)))
             have R3 := hide (hR.out.drew.below hW3 hgw.out)
             clear hW3))
        clear E3 hc4 hcall
        go_wp2_with fail
        go_roundw
        case rel => exact ⟨I, H, hI, by omega, by omega, rfl, rfl, R3, B3⟩
        case measure => simp [intOf]; omega
    · obtain rfl : I = J := by omega
      have i1 : ¬ (I : Int) < (I : Int) := by omega
      obtain ⟨T, hT⟩ : ∃ T, I - 1 = T := ⟨_, rfl⟩
      have eT : (I : Int) - 1 = (T : Int) := by omega
      go_wp2_with fail
      go_loopw [13] (fun kk wr => ∃ K : Nat, a ≤ K ∧ K ≤ T ∧ kk = .int .i64 (K : Int) ∧ Hid (RowS wr g n) ∧ Hid (Below base w wr)) (fun kk _ => T - (intOf kk).toNat)
      case atStart => exact ⟨a, Nat.le_refl _, by omega, rfl, hR, hB⟩
      case round =>
        clear hR hB
        obtain ⟨K, hK1, hK2, rfl, hR, hB⟩ := hrel
        by_cases hK : K < T
        · have i2 : (K : Int) < (T : Int) := by omega
          obtain ⟨K2, hK3⟩ : ∃ K2, K + 1 = K2 := ⟨_, rfl⟩
          have e2 : (K : Int) + 1 = (K2 : Int) := by omega
          have wp := wrapN K (by omega)
          have wq := wrapN K2 (by omega)
          have p1 : (K : Int) < (n : Int) := by omega
          have q1 : (K2 : Int) < (n : Int) := by omega
          obtain ⟨⟨xa, xb⟩, x0, x1, x2, x3⟩ := hR.out.at K (by omega)
          obtain ⟨⟨ya, yb⟩, y0, y1, y2, y3⟩ := hR.out.at K2 (by omega)
          obtain ⟨z0, z1⟩ := RowS.apart (show K ≠ K2 by omega) y0 y1
          simp only at x0 x1 y0 y1 z0 z1
          have SW := hide (hR.out.swap hB.out hg (K * 2) (K2 * 2) xa xb ya yb)
          have hK4 : Hid (K2 ≤ T ∧ a ≤ K2 ∧ K < K2) := by show _ ∧ _; omega
          clear hK3
          go_wp2_with fail
          go_region
          go_wp2_with fail
          go_roundw
          case rel => exact ⟨K2, hK4.out.2.1, hK4.out.1, rfl, SW.out.1, SW.out.2⟩
          case measure => have := hK4.out; simp [intOf]; omega
        · obtain rfl : T = K := by omega
          go_wp2_with fail
          refine bodyPost_ret (results_none rfl _ _ _) rfl ?_
          exact ⟨rfl, hR.out, hB.out⟩

set_option maxRecDepth 100000 in
set_option maxHeartbeats 8000000 in
theorem sym_right (w : World) (g n cap base a m b : Nat) (h : RowS w g n) (hg : base ≤ g) (hn : n ≤ 1000) (h0 : a + 1 < m) (h2 : m + 1 = b) (h3 : b ≤ n) :
    Calls Try.prog 45 #[.slice (some ⟨g, 0, none⟩) n cap, .int .i64 (a : Int), .int .i64 (m : Int), .int .i64 (b : Int), .func (.func 33) #[] #[]] w fun e w' => e = .returned (.tuple #[]) ∧ RowS w' g n ∧ Below base w w' := by
  replace h := hide h
  have e0 : ((m : Int) - (a : Int) == 1) = false := by rw [beq_eq_false_iff_ne]; omega
  have e00 : (b : Int) - (m : Int) = 1 := by omega
  go_enter Try.func45, Try.ntmps45
  go_wp2_with fail
  go_loopw [14, 15, 16] (fun ii jj hh wr => ∃ (I J : Nat), a ≤ I ∧ I ≤ J ∧ J ≤ m ∧ ii = .int .i64 (I : Int) ∧ jj = .int .i64 (J : Int) ∧ Hid (RowS wr g n) ∧ Hid (Below base w wr)) (fun ii jj _ _ => (intOf jj).toNat - (intOf ii).toNat)
  case atStart => exact ⟨a, m, Nat.le_refl _, by omega, Nat.le_refl _, rfl, rfl, h, Below.refl _ _⟩
  case round =>
    clear h
    obtain ⟨I, J, hI, hIJ, hJ, rfl, rfl, hR, hB⟩ := hrel
    by_cases hlt : I < J
    · have i1 : (I : Int) < (J : Int) := by omega
      obtain ⟨H, hH⟩ : ∃ H, (I + J) / 2 = H := ⟨_, rfl⟩
      have e1 : ((I : Int) + (J : Int)) / 2 = (H : Int) := by omega
      have hH1 : I ≤ H := by omega
      have hH2 : H < J := by omega
      have wH := wrapN H (by omega)
      obtain ⟨x0, x1, y0, y1, hc4⟩ := hR.out.drew.two m H (by omega) (by omega)
      have hcall := hide (fun W => cmp_any (x0, x1) (y0, y1) W)
      have hgw := hide hR.out.1
      have wP := wrapN m (by omega)
      have wQ := wrapN H (by omega)
      have p1 : (m : Int) < (n : Int) := by omega
      have q1 : (H : Int) < (n : Int) := by omega
      have p2 : (0 : Int) ≤ (m : Int) := by omega
      have q2 : (0 : Int) ≤ (H : Int) := by omega
      simp only at hcall
      generalize s3 x0 y0 = z at hcall
      clear hH
      by_cases hz : z < 0
      · have hz1 : decide (z < 0) = true := by simp; omega
        go_wp2_with fail
        go_region_held3 (fun w' => (w'.cell? ⟨g, m * 2, none⟩ = some (.string x0) ∧ w'.cell? ⟨g, m * 2 + 1, none⟩ = some (.string x1)) ∧ w'.cell? ⟨g, H * 2, none⟩ = some (.string y0) ∧ w'.cell? ⟨g, H * 2 + 1, none⟩ = some (.string y1)) (first | (exact hc4) | (exact E3)) (first
          | (go_at_call 33; refine (hcall.out _).mono ?_; rintro e W3 ⟨rfl, hW3⟩
             have E3 := two_kept hc4 hW3 hgw.out
             have B3 := hide (hB.out.trans ((Below.ofdrew hW3).mono (by have := hgw.out; omega : base ≤ wr.heap.size)))
             have R3 := hide (hR.out.drew.below hW3 hgw.out)
             clear hW3))
        clear E3 hc4 hcall
        go_wp2_with fail
        go_roundw
        case rel => exact ⟨I, H, hI, by omega, by omega, rfl, rfl, R3, B3⟩
        case measure => simp [intOf]; omega
      · have hz1 : decide (z < 0) = false := by simp; omega
        go_wp2_with fail
        go_region_held3 (fun w' => (w'.cell? ⟨g, m * 2, none⟩ = some (.string x0) ∧ w'.cell? ⟨g, m * 2 + 1, none⟩ = some (.string x1)) ∧ w'.cell? ⟨g, H * 2, none⟩ = some (.string y0) ∧ w'.cell? ⟨g, H * 2 + 1, none⟩ = some (.string y1)) (first | (exact hc4) | (exact E3)) (first
          | (go_at_call 33; refine (hcall.out _).mono ?_; rintro e W3 ⟨rfl, hW3⟩
             have E3 := two_kept hc4 hW3 hgw.out
             have B3 := hide (hB.out.trans ((Below.ofdrew hW3).mono (by have := hgw.out; omega : base ≤ wr.heap.size)))
             have R3 := hide (hR.out.drew.below hW3 hgw.out)
             clear hW3))
        clear E3 hc4 hcall
        go_wp2_with fail
        go_roundw
        case rel => exact ⟨H + 1, J, by omega, by omega, hJ, by go_num, rfl, R3, B3⟩
        case measure => simp [intOf]; omega
    · obtain rfl : I = J := by omega
      have i1 : ¬ (I : Int) < (I : Int) := by omega
      go_wp2_with fail
      go_loopw [17] (fun kk wr => ∃ K : Nat, I ≤ K ∧ K ≤ m ∧ kk = .int .i64 (K : Int) ∧ Hid (RowS wr g n) ∧ Hid (Below base w wr)) (fun kk _ => (intOf kk).toNat)
      case atStart => exact ⟨m, by omega, Nat.le_refl _, rfl, hR, hB⟩
      case round =>
        clear hR hB
        obtain ⟨K, hK1, hK2, rfl, hR, hB⟩ := hrel
        by_cases hK : I < K
        · have i2 : (I : Int) < (K : Int) := by omega
          obtain ⟨K2, hK3⟩ : ∃ K2, K - 1 = K2 := ⟨_, rfl⟩
          have e2 : (K : Int) - 1 = (K2 : Int) := by omega
          have wp := wrapN K (by omega)
          have wq := wrapN K2 (by omega)
          have p1 : (K : Int) < (n : Int) := by omega
          have q1 : (K2 : Int) < (n : Int) := by omega
          obtain ⟨⟨xa, xb⟩, x0, x1, x2, x3⟩ := hR.out.at K (by omega)
          obtain ⟨⟨ya, yb⟩, y0, y1, y2, y3⟩ := hR.out.at K2 (by omega)
          obtain ⟨z0, z1⟩ := RowS.apart (show K ≠ K2 by omega) y0 y1
          simp only at x0 x1 y0 y1 z0 z1
          have SW := hide (hR.out.swap hB.out hg (K * 2) (K2 * 2) xa xb ya yb)
          have hK4 : Hid (I ≤ K2 ∧ K2 ≤ m ∧ K2 < K) := by show _ ∧ _; omega
          clear hK3
          go_wp2_with fail
          go_region
          go_wp2_with fail
          go_roundw
          case rel => exact ⟨K2, hK4.out.1, hK4.out.2.1, rfl, SW.out.1, SW.out.2⟩
          case measure => have := hK4.out; simp [intOf]; omega
        · obtain rfl : I = K := by omega
          go_wp2_with fail
          refine bodyPost_ret (results_none rfl _ _ _) rfl ?_
          exact ⟨rfl, hR.out, hB.out⟩

set_option maxRecDepth 100000 in
set_option maxHeartbeats 16000000 in
theorem sym_hi (w : World) (g n cap base a m b : Nat) (h : RowS w g n) (hg : base ≤ g) (hn : n ≤ 1000) (h0 : a + 1 < m) (h2 : m + 1 < b) (h3 : b ≤ n) (mid : Nat) (hmid : (a + b) / 2 = mid) (hm : mid < m)
    (ih : ∀ w a' m' b', RowS w g n → a' < m' → m' < b' → b' ≤ n → b' - a' < b - a → Calls Try.prog 45 #[.slice (some ⟨g, 0, none⟩) n cap, .int .i64 (a' : Int), .int .i64 (m' : Int), .int .i64 (b' : Int), .func (.func 33) #[] #[]] w fun e w' => e = .returned (.tuple #[]) ∧ RowS w' g n ∧ Below base w w') :
    Calls Try.prog 45 #[.slice (some ⟨g, 0, none⟩) n cap, .int .i64 (a : Int), .int .i64 (m : Int), .int .i64 (b : Int), .func (.func 33) #[] #[]] w fun e w' => e = .returned (.tuple #[]) ∧ RowS w' g n ∧ Below base w w' := by
  replace h := hide h
  replace ih := hide ih
  have e0 : ((m : Int) - (a : Int) == 1) = false := by rw [beq_eq_false_iff_ne]; omega
  have e00 : ((b : Int) - (m : Int) == 1) = false := by rw [beq_eq_false_iff_ne]; omega
  have em : ((a : Int) + (b : Int)) / 2 = (mid : Int) := by omega
  have wm := wrapN mid (by omega)
  obtain ⟨N, hN⟩ : ∃ N, mid + m = N := ⟨_, rfl⟩
  have eN : (mid : Int) + (m : Int) = (N : Int) := by omega
  have wN := wrapN N (by omega)
  obtain ⟨P, hP⟩ : ∃ P, N - 1 = P := ⟨_, rfl⟩
  have eP : (N : Int) - 1 = (P : Int) := by omega
  have wP0 := wrapN P (by omega)
  obtain ⟨S0, hS0⟩ : ∃ S0, N - b = S0 := ⟨_, rfl⟩
  obtain ⟨R0, hR0⟩ : ∃ R0, mid = R0 := ⟨_, rfl⟩
  have hmi : (mid : Int) < (m : Int) := by omega
  have eS : (N : Int) - (b : Int) = (S0 : Int) := by omega
  have wS0 := wrapN S0 (by omega)
  have hlow : Hid (∀ c, S0 ≤ c → c < R0 → P - c < n ∧ c ≤ P) := fun c h4 h5 => by omega
  have F : Hid (a + 1 < m ∧ m + 1 < b ∧ b ≤ n ∧ n ≤ 1000 ∧ base ≤ g ∧ N ≤ 2000 ∧ P ≤ 2000 ∧ a ≤ S0 ∧ S0 ≤ R0 ∧ R0 ≤ m ∧ R0 ≤ mid ∧ N - S0 ≤ b ∧ S0 ≤ N ∧ R0 ≤ N ∧ a < mid ∧ mid < b) := by show _ ∧ _; omega
  have b1 : a ≤ 1000 ∧ m ≤ 1000 ∧ b ≤ 1000 ∧ mid ≤ 1000 ∧ N ≤ 2000 ∧ P ≤ 2000 ∧ S0 ≤ 1000 ∧ R0 ≤ 1000 := by omega
  obtain ⟨b1, b2, b3, b4, b5, b6, b7, b8⟩ := b1
  have F0 : Hid (N - b = S0 ∧ mid = R0) := ⟨hS0, hR0⟩
  replace hg := hide hg
  replace hn := hide hn
  clear hN hP hS0 hR0 hmid h0 h2 h3 hm
  go_enter Try.func45, Try.ntmps45
  go_wp2_with fail
  skip
  go_loopw [20, 21, 23] (fun ss rr cc wr => ∃ (S R : Nat), S0 ≤ S ∧ S ≤ R ∧ R ≤ R0 ∧ ss = .int .i64 (S : Int) ∧ rr = .int .i64 (R : Int) ∧ Hid (RowS wr g n) ∧ Hid (Below base w wr)) (fun ss rr _ _ => (intOf rr).toNat - (intOf ss).toNat)
  case atStart => exact ⟨S0, R0, Nat.le_refl _, F.out.2.2.2.2.2.2.2.2.1, Nat.le_refl _, rfl, v64 (by have := F0.out; omega), h, Below.refl _ _⟩
  case round =>
    clear h
    obtain ⟨S, R, hS, hSR, hR1, rfl, rfl, hR, hB⟩ := hrel
    by_cases hlt : S < R
    · have i1 : (S : Int) < (R : Int) := by omega
      obtain ⟨C, hC⟩ : ∃ C, (S + R) / 2 = C := ⟨_, rfl⟩
      have e1 : ((S : Int) + (R : Int)) / 2 = (C : Int) := by omega
      have hC1 : S ≤ C := by omega
      have hC2 : C < R := by omega
      have hpc := hlow.out C (by omega) (by omega)
      obtain ⟨D, hD⟩ : ∃ D, P - C = D := ⟨_, rfl⟩
      have eD : (P : Int) - (C : Int) = (D : Int) := by omega
      have FF := F.out
      obtain ⟨x0, x1, y0, y1, hc4⟩ := hR.out.drew.two D C (by omega) (by omega)
      have hcall := hide (fun W => cmp_any (x0, x1) (y0, y1) W)
      have hgw := hide hR.out.1
      have wP := wrapN D (by omega)
      have wQ := wrapN C (by omega)
      have p1 : (D : Int) < (n : Int) := by omega
      have q1 : (C : Int) < (n : Int) := by omega
      have p2 : (0 : Int) ≤ (D : Int) := by omega
      have q2 : (0 : Int) ≤ (C : Int) := by omega
      simp only at hcall
      generalize s3 x0 y0 = z at hcall
      have wSR : IntKind.i64.wrap ((S : Int) + (R : Int)) = (S : Int) + (R : Int) := by have := wrapN (S + R) (by omega); push_cast at this; exact this
      have G : Hid (S0 ≤ S ∧ S ≤ C ∧ C < R ∧ R ≤ R0) := by show _ ∧ _; omega
      have c1 : S ≤ 1000 ∧ R ≤ 1000 ∧ C ≤ 1000 ∧ D ≤ 1000 := by omega
      obtain ⟨c1, c2, c3, c4⟩ := c1
      clear hC hD hpc FF hC1 hC2 hS hSR hR1 hlt hlow
      by_cases hz : z < 0
      · have hz1 : decide (z < 0) = true := by simp; omega
        go_wp2_with fail
        go_region_held3 (fun w' => (w'.cell? ⟨g, D * 2, none⟩ = some (.string x0) ∧ w'.cell? ⟨g, D * 2 + 1, none⟩ = some (.string x1)) ∧ w'.cell? ⟨g, C * 2, none⟩ = some (.string y0) ∧ w'.cell? ⟨g, C * 2 + 1, none⟩ = some (.string y1)) (first | (exact hc4) | (exact E3)) (first
          | (go_at_call 33; refine (hcall.out _).mono ?_; rintro e W3 ⟨rfl, hW3⟩
             have E3 := two_kept hc4 hW3 hgw.out
             have B3 := hide (hB.out.trans ((Below.ofdrew hW3).mono (by have := hgw.out; have := F.out; omega : base ≤ wr.heap.size)))
             have R3 := hide (hR.out.drew.below hW3 hgw.out)
             clear hW3))
        clear E3 hc4 hcall
        go_wp2_with fail
        go_roundw
        case rel => have := G.out; exact ⟨S, C, by omega, by omega, by omega, rfl, rfl, R3, B3⟩
        case measure => have := G.out; simp [intOf]; omega
      · have hz1 : decide (z < 0) = false := by simp; omega
        go_wp2_with fail
        go_region_held3 (fun w' => (w'.cell? ⟨g, D * 2, none⟩ = some (.string x0) ∧ w'.cell? ⟨g, D * 2 + 1, none⟩ = some (.string x1)) ∧ w'.cell? ⟨g, C * 2, none⟩ = some (.string y0) ∧ w'.cell? ⟨g, C * 2 + 1, none⟩ = some (.string y1)) (first | (exact hc4) | (exact E3)) (first
          | (go_at_call 33; refine (hcall.out _).mono ?_; rintro e W3 ⟨rfl, hW3⟩
             have E3 := two_kept hc4 hW3 hgw.out
             have B3 := hide (hB.out.trans ((Below.ofdrew hW3).mono (by have := hgw.out; have := F.out; omega : base ≤ wr.heap.size)))
             have R3 := hide (hR.out.drew.below hW3 hgw.out)
             clear hW3))
        clear E3 hc4 hcall
        go_wp2_with fail
        go_roundw
        case rel => have := G.out; have := F.out; exact ⟨C + 1, R, by omega, by omega, by omega, by go_num, rfl, R3, B3⟩
        case measure => have := G.out; have := F.out; simp [intOf]; omega
    · obtain rfl : S = R := by omega
      have i1 : ¬ (S : Int) < (S : Int) := by omega
      obtain ⟨E, hE⟩ : ∃ E, N - S = E := ⟨_, rfl⟩
      have FF := F.out
      have eE : (N : Int) - (S : Int) = (E : Int) := by omega
      have wE := wrapN E (by omega)
      have G : Hid (a ≤ S ∧ S ≤ m ∧ S ≤ mid ∧ E ≤ b ∧ b ≤ n ∧ a < mid ∧ mid < b) := by show _ ∧ _; omega
      have c1 : S ≤ 1000 ∧ E ≤ 1000 := by omega
      obtain ⟨c1, c2⟩ := c1
      clear hlow FF hE hS hSR hR1 hlt
      skip
      by_cases k1 : S < m ∧ m < E
      · have k1a : (S : Int) < (m : Int) := by omega
        have k1b : (m : Int) < (E : Int) := by omega
        have RO := hide (rotate_any wr g n cap base S m E hR.out hg.out hn.out k1.1 k1.2 (by have := G.out; omega) (.func (.func 33) #[] #[]))
        go_wp2_with fail
        refine RO.out.mono ?_
        rintro e wa ⟨rfl, Ra, Ba⟩
        replace Ra := hide Ra
        replace Ba := hide (hB.out.trans Ba)
        clear RO hR hB
        by_cases k2 : a < S ∧ S < mid
        · have k2a : (a : Int) < (S : Int) := by omega
          have k2b : (S : Int) < (mid : Int) := by omega
          have SY := hide (ih.out wa a S mid Ra.out k2.1 k2.2 (by have := G.out; omega) (by have := G.out; omega))
          go_wp2_with fail
          refine SY.out.mono ?_
          rintro e wb ⟨rfl, Rb, Bb⟩
          replace Rb := hide Rb
          replace Bb := hide (Ba.out.trans Bb)
          clear SY
          by_cases k3 : mid < E ∧ E < b
          · have k3a : (mid : Int) < (E : Int) := by omega
            have k3b : (E : Int) < (b : Int) := by omega
            have SZ := hide (ih.out wb mid E b Rb.out k3.1 k3.2 (by have := G.out; omega) (by have := G.out; omega))
            go_wp2_with fail
            all_goals (refine SZ.out.mono ?_; rintro e wc ⟨rfl, Rc, Bc⟩; replace Rc := hide Rc; replace Bc := hide (Bb.out.trans Bc); clear SZ; go_wp2_with fail; go_end0; exact ⟨rfl, Rc.out, Bc.out⟩)
          · by_cases k3a : mid < E
            · have k3c : (mid : Int) < (E : Int) := by omega
              have k3b : ¬ (E : Int) < (b : Int) := by omega
              go_wp2_with fail
              all_goals (go_end0; exact ⟨rfl, Rb.out, Bb.out⟩)
            · have k3c : ¬ (mid : Int) < (E : Int) := by omega
              go_wp2_with fail
              all_goals (go_end0; exact ⟨rfl, Rb.out, Bb.out⟩)
        · by_cases k2a : a < S
          · have k2c : (a : Int) < (S : Int) := by omega
            have k2b : ¬ (S : Int) < (mid : Int) := by omega
            by_cases k3 : mid < E ∧ E < b
            · have k3a : (mid : Int) < (E : Int) := by omega
              have k3b : (E : Int) < (b : Int) := by omega
              have SZ := hide (ih.out wa mid E b Ra.out k3.1 k3.2 (by have := G.out; omega) (by have := G.out; omega))
              go_wp2_with fail
              all_goals (refine SZ.out.mono ?_; rintro e wc ⟨rfl, Rc, Bc⟩; replace Rc := hide Rc; replace Bc := hide (Ba.out.trans Bc); clear SZ; go_wp2_with fail; go_end0; exact ⟨rfl, Rc.out, Bc.out⟩)
            · by_cases k3a : mid < E
              · have k3c : (mid : Int) < (E : Int) := by omega
                have k3b : ¬ (E : Int) < (b : Int) := by omega
                go_wp2_with fail
                all_goals (go_end0; exact ⟨rfl, Ra.out, Ba.out⟩)
              · have k3c : ¬ (mid : Int) < (E : Int) := by omega
                go_wp2_with fail
                all_goals (go_end0; exact ⟨rfl, Ra.out, Ba.out⟩)
          · have k2c : ¬ (a : Int) < (S : Int) := by omega
            by_cases k3 : mid < E ∧ E < b
            · have k3a : (mid : Int) < (E : Int) := by omega
              have k3b : (E : Int) < (b : Int) := by omega
              have SZ := hide (ih.out wa mid E b Ra.out k3.1 k3.2 (by have := G.out; omega) (by have := G.out; omega))
              go_wp2_with fail
              all_goals (refine SZ.out.mono ?_; rintro e wc ⟨rfl, Rc, Bc⟩; replace Rc := hide Rc; replace Bc := hide (Ba.out.trans Bc); clear SZ; go_wp2_with fail; go_end0; exact ⟨rfl, Rc.out, Bc.out⟩)
            · by_cases k3a : mid < E
              · have k3c : (mid : Int) < (E : Int) := by omega
                have k3b : ¬ (E : Int) < (b : Int) := by omega
                go_wp2_with fail
                all_goals (go_end0; exact ⟨rfl, Ra.out, Ba.out⟩)
              · have k3c : ¬ (mid : Int) < (E : Int) := by omega
                go_wp2_with fail
                all_goals (go_end0; exact ⟨rfl, Ra.out, Ba.out⟩)
      · by_cases k1a : S < m
        · have k1c : (S : Int) < (m : Int) := by omega
          have k1b : ¬ (m : Int) < (E : Int) := by omega
          by_cases k2 : a < S ∧ S < mid
          · have k2a : (a : Int) < (S : Int) := by omega
            have k2b : (S : Int) < (mid : Int) := by omega
            have SY := hide (ih.out wr a S mid hR.out k2.1 k2.2 (by have := G.out; omega) (by have := G.out; omega))
            go_wp2_with fail
            refine SY.out.mono ?_
            rintro e wb ⟨rfl, Rb, Bb⟩
            replace Rb := hide Rb
            replace Bb := hide (hB.out.trans Bb)
            clear SY
            by_cases k3 : mid < E ∧ E < b
            · have k3a : (mid : Int) < (E : Int) := by omega
              have k3b : (E : Int) < (b : Int) := by omega
              have SZ := hide (ih.out wb mid E b Rb.out k3.1 k3.2 (by have := G.out; omega) (by have := G.out; omega))
              go_wp2_with fail
              all_goals (refine SZ.out.mono ?_; rintro e wc ⟨rfl, Rc, Bc⟩; replace Rc := hide Rc; replace Bc := hide (Bb.out.trans Bc); clear SZ; go_wp2_with fail; go_end0; exact ⟨rfl, Rc.out, Bc.out⟩)
            · by_cases k3a : mid < E
              · have k3c : (mid : Int) < (E : Int) := by omega
                have k3b : ¬ (E : Int) < (b : Int) := by omega
                go_wp2_with fail
                all_goals (go_end0; exact ⟨rfl, Rb.out, Bb.out⟩)
              · have k3c : ¬ (mid : Int) < (E : Int) := by omega
                go_wp2_with fail
                all_goals (go_end0; exact ⟨rfl, Rb.out, Bb.out⟩)
          · by_cases k2a : a < S
            · have k2c : (a : Int) < (S : Int) := by omega
              have k2b : ¬ (S : Int) < (mid : Int) := by omega
              by_cases k3 : mid < E ∧ E < b
              · have k3a : (mid : Int) < (E : Int) := by omega
                have k3b : (E : Int) < (b : Int) := by omega
                have SZ := hide (ih.out wr mid E b hR.out k3.1 k3.2 (by have := G.out; omega) (by have := G.out; omega))
                go_wp2_with fail
                all_goals (refine SZ.out.mono ?_; rintro e wc ⟨rfl, Rc, Bc⟩; replace Rc := hide Rc; replace Bc := hide (hB.out.trans Bc); clear SZ; go_wp2_with fail; go_end0; exact ⟨rfl, Rc.out, Bc.out⟩)
              · by_cases k3a : mid < E
                · have k3c : (mid : Int) < (E : Int) := by omega
                  have k3b : ¬ (E : Int) < (b : Int) := by omega
                  go_wp2_with fail
                  all_goals (go_end0; exact ⟨rfl, hR.out, hB.out⟩)
                · have k3c : ¬ (mid : Int) < (E : Int) := by omega
                  go_wp2_with fail
                  all_goals (go_end0; exact ⟨rfl, hR.out, hB.out⟩)
            · have k2c : ¬ (a : Int) < (S : Int) := by omega
              by_cases k3 : mid < E ∧ E < b
              · have k3a : (mid : Int) < (E : Int) := by omega
                have k3b : (E : Int) < (b : Int) := by omega
                have SZ := hide (ih.out wr mid E b hR.out k3.1 k3.2 (by have := G.out; omega) (by have := G.out; omega))
                go_wp2_with fail
                all_goals (refine SZ.out.mono ?_; rintro e wc ⟨rfl, Rc, Bc⟩; replace Rc := hide Rc; replace Bc := hide (hB.out.trans Bc); clear SZ; go_wp2_with fail; go_end0; exact ⟨rfl, Rc.out, Bc.out⟩)
              · by_cases k3a : mid < E
                · have k3c : (mid : Int) < (E : Int) := by omega
                  have k3b : ¬ (E : Int) < (b : Int) := by omega
                  go_wp2_with fail
                  all_goals (go_end0; exact ⟨rfl, hR.out, hB.out⟩)
                · have k3c : ¬ (mid : Int) < (E : Int) := by omega
                  go_wp2_with fail
                  all_goals (go_end0; exact ⟨rfl, hR.out, hB.out⟩)
        · have k1c : ¬ (S : Int) < (m : Int) := by omega
          by_cases k2 : a < S ∧ S < mid
          · have k2a : (a : Int) < (S : Int) := by omega
            have k2b : (S : Int) < (mid : Int) := by omega
            have SY := hide (ih.out wr a S mid hR.out k2.1 k2.2 (by have := G.out; omega) (by have := G.out; omega))
            go_wp2_with fail
            refine SY.out.mono ?_
            rintro e wb ⟨rfl, Rb, Bb⟩
            replace Rb := hide Rb
            replace Bb := hide (hB.out.trans Bb)
            clear SY
            by_cases k3 : mid < E ∧ E < b
            · have k3a : (mid : Int) < (E : Int) := by omega
              have k3b : (E : Int) < (b : Int) := by omega
              have SZ := hide (ih.out wb mid E b Rb.out k3.1 k3.2 (by have := G.out; omega) (by have := G.out; omega))
              go_wp2_with fail
              all_goals (refine SZ.out.mono ?_; rintro e wc ⟨rfl, Rc, Bc⟩; replace Rc := hide Rc; replace Bc := hide (Bb.out.trans Bc); clear SZ; go_wp2_with fail; go_end0; exact ⟨rfl, Rc.out, Bc.out⟩)
            · by_cases k3a : mid < E
              · have k3c : (mid : Int) < (E : Int) := by omega
                have k3b : ¬ (E : Int) < (b : Int) := by omega
                go_wp2_with fail
                all_goals (go_end0; exact ⟨rfl, Rb.out, Bb.out⟩)
              · have k3c : ¬ (mid : Int) < (E : Int) := by omega
                go_wp2_with fail
                all_goals (go_end0; exact ⟨rfl, Rb.out, Bb.out⟩)
          · by_cases k2a : a < S
            · have k2c : (a : Int) < (S : Int) := by omega
              have k2b : ¬ (S : Int) < (mid : Int) := by omega
              by_cases k3 : mid < E ∧ E < b
              · have k3a : (mid : Int) < (E : Int) := by omega
                have k3b : (E : Int) < (b : Int) := by omega
                have SZ := hide (ih.out wr mid E b hR.out k3.1 k3.2 (by have := G.out; omega) (by have := G.out; omega))
                go_wp2_with fail
                all_goals (refine SZ.out.mono ?_; rintro e wc ⟨rfl, Rc, Bc⟩; replace Rc := hide Rc; replace Bc := hide (hB.out.trans Bc); clear SZ; go_wp2_with fail; go_end0; exact ⟨rfl, Rc.out, Bc.out⟩)
              · by_cases k3a : mid < E
                · have k3c : (mid : Int) < (E : Int) := by omega
                  have k3b : ¬ (E : Int) < (b : Int) := by omega
                  go_wp2_with fail
                  all_goals (go_end0; exact ⟨rfl, hR.out, hB.out⟩)
                · have k3c : ¬ (mid : Int) < (E : Int) := by omega
                  go_wp2_with fail
                  all_goals (go_end0; exact ⟨rfl, hR.out, hB.out⟩)
            · have k2c : ¬ (a : Int) < (S : Int) := by omega
              by_cases k3 : mid < E ∧ E < b
              · have k3a : (mid : Int) < (E : Int) := by omega
                have k3b : (E : Int) < (b : Int) := by omega
                have SZ := hide (ih.out wr mid E b hR.out k3.1 k3.2 (by have := G.out; omega) (by have := G.out; omega))
                go_wp2_with fail
                all_goals (refine SZ.out.mono ?_; rintro e wc ⟨rfl, Rc, Bc⟩; replace Rc := hide Rc; replace Bc := hide (hB.out.trans Bc); clear SZ; go_wp2_with fail; go_end0; exact ⟨rfl, Rc.out, Bc.out⟩)
              · by_cases k3a : mid < E
                · have k3c : (mid : Int) < (E : Int) := by omega
                  have k3b : ¬ (E : Int) < (b : Int) := by omega
                  go_wp2_with fail
                  all_goals (go_end0; exact ⟨rfl, hR.out, hB.out⟩)
                · have k3c : ¬ (mid : Int) < (E : Int) := by omega
                  go_wp2_with fail
                  all_goals (go_end0; exact ⟨rfl, hR.out, hB.out⟩)

set_option maxRecDepth 100000 in
set_option maxHeartbeats 16000000 in
theorem sym_lo (w : World) (g n cap base a m b : Nat) (h : RowS w g n) (hg : base ≤ g) (hn : n ≤ 1000) (h0 : a + 1 < m) (h2 : m + 1 < b) (h3 : b ≤ n) (mid : Nat) (hmid : (a + b) / 2 = mid) (hm : m ≤ mid)
    (ih : ∀ w a' m' b', RowS w g n → a' < m' → m' < b' → b' ≤ n → b' - a' < b - a → Calls Try.prog 45 #[.slice (some ⟨g, 0, none⟩) n cap, .int .i64 (a' : Int), .int .i64 (m' : Int), .int .i64 (b' : Int), .func (.func 33) #[] #[]] w fun e w' => e = .returned (.tuple #[]) ∧ RowS w' g n ∧ Below base w w') :
    Calls Try.prog 45 #[.slice (some ⟨g, 0, none⟩) n cap, .int .i64 (a : Int), .int .i64 (m : Int), .int .i64 (b : Int), .func (.func 33) #[] #[]] w fun e w' => e = .returned (.tuple #[]) ∧ RowS w' g n ∧ Below base w w' := by
  replace h := hide h
  replace ih := hide ih
  have e0 : ((m : Int) - (a : Int) == 1) = false := by rw [beq_eq_false_iff_ne]; omega
  have e00 : ((b : Int) - (m : Int) == 1) = false := by rw [beq_eq_false_iff_ne]; omega
  have em : ((a : Int) + (b : Int)) / 2 = (mid : Int) := by omega
  have wm := wrapN mid (by omega)
  obtain ⟨N, hN⟩ : ∃ N, mid + m = N := ⟨_, rfl⟩
  have eN : (mid : Int) + (m : Int) = (N : Int) := by omega
  have wN := wrapN N (by omega)
  obtain ⟨P, hP⟩ : ∃ P, N - 1 = P := ⟨_, rfl⟩
  have eP : (N : Int) - 1 = (P : Int) := by omega
  have wP0 := wrapN P (by omega)
  obtain ⟨S0, hS0⟩ : ∃ S0, a = S0 := ⟨_, rfl⟩
  obtain ⟨R0, hR0⟩ : ∃ R0, m = R0 := ⟨_, rfl⟩
  have hmi : ¬ (mid : Int) < (m : Int) := by omega
  have wS0 := wrapN S0 (by omega)
  have hlow : Hid (∀ c, S0 ≤ c → c < R0 → P - c < n ∧ c ≤ P) := fun c h4 h5 => by omega
  have F : Hid (a + 1 < m ∧ m + 1 < b ∧ b ≤ n ∧ n ≤ 1000 ∧ base ≤ g ∧ N ≤ 2000 ∧ P ≤ 2000 ∧ a ≤ S0 ∧ S0 ≤ R0 ∧ R0 ≤ m ∧ R0 ≤ mid ∧ N - S0 ≤ b ∧ S0 ≤ N ∧ R0 ≤ N ∧ a < mid ∧ mid < b) := by show _ ∧ _; omega
  have b1 : a ≤ 1000 ∧ m ≤ 1000 ∧ b ≤ 1000 ∧ mid ≤ 1000 ∧ N ≤ 2000 ∧ P ≤ 2000 ∧ S0 ≤ 1000 ∧ R0 ≤ 1000 := by omega
  obtain ⟨b1, b2, b3, b4, b5, b6, b7, b8⟩ := b1
  have F0 : Hid (a = S0 ∧ m = R0) := ⟨hS0, hR0⟩
  replace hg := hide hg
  replace hn := hide hn
  clear hN hP hS0 hR0 hmid h0 h2 h3 hm
  go_enter Try.func45, Try.ntmps45
  go_wp2_with fail
  skip
  go_loopw [20, 21, 23] (fun ss rr cc wr => ∃ (S R : Nat), S0 ≤ S ∧ S ≤ R ∧ R ≤ R0 ∧ ss = .int .i64 (S : Int) ∧ rr = .int .i64 (R : Int) ∧ Hid (RowS wr g n) ∧ Hid (Below base w wr)) (fun ss rr _ _ => (intOf rr).toNat - (intOf ss).toNat)
  case atStart => exact ⟨S0, R0, Nat.le_refl _, F.out.2.2.2.2.2.2.2.2.1, Nat.le_refl _, v64 (by have := F0.out; omega), v64 (by have := F0.out; omega), h, Below.refl _ _⟩
  case round =>
    clear h
    obtain ⟨S, R, hS, hSR, hR1, rfl, rfl, hR, hB⟩ := hrel
    by_cases hlt : S < R
    · have i1 : (S : Int) < (R : Int) := by omega
      obtain ⟨C, hC⟩ : ∃ C, (S + R) / 2 = C := ⟨_, rfl⟩
      have e1 : ((S : Int) + (R : Int)) / 2 = (C : Int) := by omega
      have hC1 : S ≤ C := by omega
      have hC2 : C < R := by omega
      have hpc := hlow.out C (by omega) (by omega)
      obtain ⟨D, hD⟩ : ∃ D, P - C = D := ⟨_, rfl⟩
      have eD : (P : Int) - (C : Int) = (D : Int) := by omega
      have FF := F.out
      obtain ⟨x0, x1, y0, y1, hc4⟩ := hR.out.drew.two D C (by omega) (by omega)
      have hcall := hide (fun W => cmp_any (x0, x1) (y0, y1) W)
      have hgw := hide hR.out.1
      have wP := wrapN D (by omega)
      have wQ := wrapN C (by omega)
      have p1 : (D : Int) < (n : Int) := by omega
      have q1 : (C : Int) < (n : Int) := by omega
      have p2 : (0 : Int) ≤ (D : Int) := by omega
      have q2 : (0 : Int) ≤ (C : Int) := by omega
      simp only at hcall
      generalize s3 x0 y0 = z at hcall
      have wSR : IntKind.i64.wrap ((S : Int) + (R : Int)) = (S : Int) + (R : Int) := by have := wrapN (S + R) (by omega); push_cast at this; exact this
      have G : Hid (S0 ≤ S ∧ S ≤ C ∧ C < R ∧ R ≤ R0) := by show _ ∧ _; omega
      have c1 : S ≤ 1000 ∧ R ≤ 1000 ∧ C ≤ 1000 ∧ D ≤ 1000 := by omega
      obtain ⟨c1, c2, c3, c4⟩ := c1
      clear hC hD hpc FF hC1 hC2 hS hSR hR1 hlt hlow
      by_cases hz : z < 0
      · have hz1 : decide (z < 0) = true := by simp; omega
        go_wp2_with fail
        go_region_held3 (fun w' => (w'.cell? ⟨g, D * 2, none⟩ = some (.string x0) ∧ w'.cell? ⟨g, D * 2 + 1, none⟩ = some (.string x1)) ∧ w'.cell? ⟨g, C * 2, none⟩ = some (.string y0) ∧ w'.cell? ⟨g, C * 2 + 1, none⟩ = some (.string y1)) (first | (exact hc4) | (exact E3)) (first
          | (go_at_call 33; refine (hcall.out _).mono ?_; rintro e W3 ⟨rfl, hW3⟩
             have E3 := two_kept hc4 hW3 hgw.out
             have B3 := hide (hB.out.trans ((Below.ofdrew hW3).mono (by have := hgw.out; have := F.out; omega : base ≤ wr.heap.size)))
             have R3 := hide (hR.out.drew.below hW3 hgw.out)
             clear hW3))
        clear E3 hc4 hcall
        go_wp2_with fail
        go_roundw
        case rel => have := G.out; exact ⟨S, C, by omega, by omega, by omega, rfl, rfl, R3, B3⟩
        case measure => have := G.out; simp [intOf]; omega
      · have hz1 : decide (z < 0) = false := by simp; omega
        go_wp2_with fail
        go_region_held3 (fun w' => (w'.cell? ⟨g, D * 2, none⟩ = some (.string x0) ∧ w'.cell? ⟨g, D * 2 + 1, none⟩ = some (.string x1)) ∧ w'.cell? ⟨g, C * 2, none⟩ = some (.string y0) ∧ w'.cell? ⟨g, C * 2 + 1, none⟩ = some (.string y1)) (first | (exact hc4) | (exact E3)) (first
          | (go_at_call 33; refine (hcall.out _).mono ?_; rintro e W3 ⟨rfl, hW3⟩
             have E3 := two_kept hc4 hW3 hgw.out
             have B3 := hide (hB.out.trans ((Below.ofdrew hW3).mono (by have := hgw.out; have := F.out; omega : base ≤ wr.heap.size)))
             have R3 := hide (hR.out.drew.below hW3 hgw.out)
             clear hW3))
        clear E3 hc4 hcall
        go_wp2_with fail
        go_roundw
        case rel => have := G.out; have := F.out; exact ⟨C + 1, R, by omega, by omega, by omega, by go_num, rfl, R3, B3⟩
        case measure => have := G.out; have := F.out; simp [intOf]; omega
    · obtain rfl : S = R := by omega
      have i1 : ¬ (S : Int) < (S : Int) := by omega
      obtain ⟨E, hE⟩ : ∃ E, N - S = E := ⟨_, rfl⟩
      have FF := F.out
      have eE : (N : Int) - (S : Int) = (E : Int) := by omega
      have wE := wrapN E (by omega)
      have G : Hid (a ≤ S ∧ S ≤ m ∧ S ≤ mid ∧ E ≤ b ∧ b ≤ n ∧ a < mid ∧ mid < b) := by show _ ∧ _; omega
      have c1 : S ≤ 1000 ∧ E ≤ 1000 := by omega
      obtain ⟨c1, c2⟩ := c1
      clear hlow FF hE hS hSR hR1 hlt
      skip
      by_cases k1 : S < m ∧ m < E
      · have k1a : (S : Int) < (m : Int) := by omega
        have k1b : (m : Int) < (E : Int) := by omega
        have RO := hide (rotate_any wr g n cap base S m E hR.out hg.out hn.out k1.1 k1.2 (by have := G.out; omega) (.func (.func 33) #[] #[]))
        go_wp2_with fail
        refine RO.out.mono ?_
        rintro e wa ⟨rfl, Ra, Ba⟩
        replace Ra := hide Ra
        replace Ba := hide (hB.out.trans Ba)
        clear RO hR hB
        by_cases k2 : a < S ∧ S < mid
        · have k2a : (a : Int) < (S : Int) := by omega
          have k2b : (S : Int) < (mid : Int) := by omega
          have SY := hide (ih.out wa a S mid Ra.out k2.1 k2.2 (by have := G.out; omega) (by have := G.out; omega))
          go_wp2_with fail
          refine SY.out.mono ?_
          rintro e wb ⟨rfl, Rb, Bb⟩
          replace Rb := hide Rb
          replace Bb := hide (Ba.out.trans Bb)
          clear SY
          by_cases k3 : mid < E ∧ E < b
          · have k3a : (mid : Int) < (E : Int) := by omega
            have k3b : (E : Int) < (b : Int) := by omega
            have SZ := hide (ih.out wb mid E b Rb.out k3.1 k3.2 (by have := G.out; omega) (by have := G.out; omega))
            go_wp2_with fail
            all_goals (refine SZ.out.mono ?_; rintro e wc ⟨rfl, Rc, Bc⟩; replace Rc := hide Rc; replace Bc := hide (Bb.out.trans Bc); clear SZ; go_wp2_with fail; go_end0; exact ⟨rfl, Rc.out, Bc.out⟩)
          · by_cases k3a : mid < E
            · have k3c : (mid : Int) < (E : Int) := by omega
              have k3b : ¬ (E : Int) < (b : Int) := by omega
              go_wp2_with fail
              all_goals (go_end0; exact ⟨rfl, Rb.out, Bb.out⟩)
            · have k3c : ¬ (mid : Int) < (E : Int) := by omega
              go_wp2_with fail
              all_goals (go_end0; exact ⟨rfl, Rb.out, Bb.out⟩)
        · by_cases k2a : a < S
          · have k2c : (a : Int) < (S : Int) := by omega
            have k2b : ¬ (S : Int) < (mid : Int) := by omega
            by_cases k3 : mid < E ∧ E < b
            · have k3a : (mid : Int) < (E : Int) := by omega
              have k3b : (E : Int) < (b : Int) := by omega
              have SZ := hide (ih.out wa mid E b Ra.out k3.1 k3.2 (by have := G.out; omega) (by have := G.out; omega))
              go_wp2_with fail
              all_goals (refine SZ.out.mono ?_; rintro e wc ⟨rfl, Rc, Bc⟩; replace Rc := hide Rc; replace Bc := hide (Ba.out.trans Bc); clear SZ; go_wp2_with fail; go_end0; exact ⟨rfl, Rc.out, Bc.out⟩)
            · by_cases k3a : mid < E
              · have k3c : (mid : Int) < (E : Int) := by omega
                have k3b : ¬ (E : Int) < (b : Int) := by omega
                go_wp2_with fail
                all_goals (go_end0; exact ⟨rfl, Ra.out, Ba.out⟩)
              · have k3c : ¬ (mid : Int) < (E : Int) := by omega
                go_wp2_with fail
                all_goals (go_end0; exact ⟨rfl, Ra.out, Ba.out⟩)
          · have k2c : ¬ (a : Int) < (S : Int) := by omega
            by_cases k3 : mid < E ∧ E < b
            · have k3a : (mid : Int) < (E : Int) := by omega
              have k3b : (E : Int) < (b : Int) := by omega
              have SZ := hide (ih.out wa mid E b Ra.out k3.1 k3.2 (by have := G.out; omega) (by have := G.out; omega))
              go_wp2_with fail
              all_goals (refine SZ.out.mono ?_; rintro e wc ⟨rfl, Rc, Bc⟩; replace Rc := hide Rc; replace Bc := hide (Ba.out.trans Bc); clear SZ; go_wp2_with fail; go_end0; exact ⟨rfl, Rc.out, Bc.out⟩)
            · by_cases k3a : mid < E
              · have k3c : (mid : Int) < (E : Int) := by omega
                have k3b : ¬ (E : Int) < (b : Int) := by omega
                go_wp2_with fail
                all_goals (go_end0; exact ⟨rfl, Ra.out, Ba.out⟩)
              · have k3c : ¬ (mid : Int) < (E : Int) := by omega
                go_wp2_with fail
                all_goals (go_end0; exact ⟨rfl, Ra.out, Ba.out⟩)
      · by_cases k1a : S < m
        · have k1c : (S : Int) < (m : Int) := by omega
          have k1b : ¬ (m : Int) < (E : Int) := by omega
          by_cases k2 : a < S ∧ S < mid
          · have k2a : (a : Int) < (S : Int) := by omega
            have k2b : (S : Int) < (mid : Int) := by omega
            have SY := hide (ih.out wr a S mid hR.out k2.1 k2.2 (by have := G.out; omega) (by have := G.out; omega))
            go_wp2_with fail
            refine SY.out.mono ?_
            rintro e wb ⟨rfl, Rb, Bb⟩
            replace Rb := hide Rb
            replace Bb := hide (hB.out.trans Bb)
            clear SY
            by_cases k3 : mid < E ∧ E < b
            · have k3a : (mid : Int) < (E : Int) := by omega
              have k3b : (E : Int) < (b : Int) := by omega
              have SZ := hide (ih.out wb mid E b Rb.out k3.1 k3.2 (by have := G.out; omega) (by have := G.out; omega))
              go_wp2_with fail
              all_goals (refine SZ.out.mono ?_; rintro e wc ⟨rfl, Rc, Bc⟩; replace Rc := hide Rc; replace Bc := hide (Bb.out.trans Bc); clear SZ; go_wp2_with fail; go_end0; exact ⟨rfl, Rc.out, Bc.out⟩)
            · by_cases k3a : mid < E
              · have k3c : (mid : Int) < (E : Int) := by omega
                have k3b : ¬ (E : Int) < (b : Int) := by omega
                go_wp2_with fail
                all_goals (go_end0; exact ⟨rfl, Rb.out, Bb.out⟩)
              · have k3c : ¬ (mid : Int) < (E : Int) := by omega
                go_wp2_with fail
                all_goals (go_end0; exact ⟨rfl, Rb.out, Bb.out⟩)
          · by_cases k2a : a < S
            · have k2c : (a : Int) < (S : Int) := by omega
              have k2b : ¬ (S : Int) < (mid : Int) := by omega
              by_cases k3 : mid < E ∧ E < b
              · have k3a : (mid : Int) < (E : Int) := by omega
                have k3b : (E : Int) < (b : Int) := by omega
                have SZ := hide (ih.out wr mid E b hR.out k3.1 k3.2 (by have := G.out; omega) (by have := G.out; omega))
                go_wp2_with fail
                all_goals (refine SZ.out.mono ?_; rintro e wc ⟨rfl, Rc, Bc⟩; replace Rc := hide Rc; replace Bc := hide (hB.out.trans Bc); clear SZ; go_wp2_with fail; go_end0; exact ⟨rfl, Rc.out, Bc.out⟩)
              · by_cases k3a : mid < E
                · have k3c : (mid : Int) < (E : Int) := by omega
                  have k3b : ¬ (E : Int) < (b : Int) := by omega
                  go_wp2_with fail
                  all_goals (go_end0; exact ⟨rfl, hR.out, hB.out⟩)
                · have k3c : ¬ (mid : Int) < (E : Int) := by omega
                  go_wp2_with fail
                  all_goals (go_end0; exact ⟨rfl, hR.out, hB.out⟩)
            · have k2c : ¬ (a : Int) < (S : Int) := by omega
              by_cases k3 : mid < E ∧ E < b
              · have k3a : (mid : Int) < (E : Int) := by omega
                have k3b : (E : Int) < (b : Int) := by omega
                have SZ := hide (ih.out wr mid E b hR.out k3.1 k3.2 (by have := G.out; omega) (by have := G.out; omega))
                go_wp2_with fail
                all_goals (refine SZ.out.mono ?_; rintro e wc ⟨rfl, Rc, Bc⟩; replace Rc := hide Rc; replace Bc := hide (hB.out.trans Bc); clear SZ; go_wp2_with fail; go_end0; exact ⟨rfl, Rc.out, Bc.out⟩)
              · by_cases k3a : mid < E
                · have k3c : (mid : Int) < (E : Int) := by omega
                  have k3b : ¬ (E : Int) < (b : Int) := by omega
                  go_wp2_with fail
                  all_goals (go_end0; exact ⟨rfl, hR.out, hB.out⟩)
                · have k3c : ¬ (mid : Int) < (E : Int) := by omega
                  go_wp2_with fail
                  all_goals (go_end0; exact ⟨rfl, hR.out, hB.out⟩)
        · have k1c : ¬ (S : Int) < (m : Int) := by omega
          by_cases k2 : a < S ∧ S < mid
          · have k2a : (a : Int) < (S : Int) := by omega
            have k2b : (S : Int) < (mid : Int) := by omega
            have SY := hide (ih.out wr a S mid hR.out k2.1 k2.2 (by have := G.out; omega) (by have := G.out; omega))
            go_wp2_with fail
            refine SY.out.mono ?_
            rintro e wb ⟨rfl, Rb, Bb⟩
            replace Rb := hide Rb
            replace Bb := hide (hB.out.trans Bb)
            clear SY
            by_cases k3 : mid < E ∧ E < b
            · have k3a : (mid : Int) < (E : Int) := by omega
              have k3b : (E : Int) < (b : Int) := by omega
              have SZ := hide (ih.out wb mid E b Rb.out k3.1 k3.2 (by have := G.out; omega) (by have := G.out; omega))
              go_wp2_with fail
              all_goals (refine SZ.out.mono ?_; rintro e wc ⟨rfl, Rc, Bc⟩; replace Rc := hide Rc; replace Bc := hide (Bb.out.trans Bc); clear SZ; go_wp2_with fail; go_end0; exact ⟨rfl, Rc.out, Bc.out⟩)
            · by_cases k3a : mid < E
              · have k3c : (mid : Int) < (E : Int) := by omega
                have k3b : ¬ (E : Int) < (b : Int) := by omega
                go_wp2_with fail
                all_goals (go_end0; exact ⟨rfl, Rb.out, Bb.out⟩)
              · have k3c : ¬ (mid : Int) < (E : Int) := by omega
                go_wp2_with fail
                all_goals (go_end0; exact ⟨rfl, Rb.out, Bb.out⟩)
          · by_cases k2a : a < S
            · have k2c : (a : Int) < (S : Int) := by omega
              have k2b : ¬ (S : Int) < (mid : Int) := by omega
              by_cases k3 : mid < E ∧ E < b
              · have k3a : (mid : Int) < (E : Int) := by omega
                have k3b : (E : Int) < (b : Int) := by omega
                have SZ := hide (ih.out wr mid E b hR.out k3.1 k3.2 (by have := G.out; omega) (by have := G.out; omega))
                go_wp2_with fail
                all_goals (refine SZ.out.mono ?_; rintro e wc ⟨rfl, Rc, Bc⟩; replace Rc := hide Rc; replace Bc := hide (hB.out.trans Bc); clear SZ; go_wp2_with fail; go_end0; exact ⟨rfl, Rc.out, Bc.out⟩)
              · by_cases k3a : mid < E
                · have k3c : (mid : Int) < (E : Int) := by omega
                  have k3b : ¬ (E : Int) < (b : Int) := by omega
                  go_wp2_with fail
                  all_goals (go_end0; exact ⟨rfl, hR.out, hB.out⟩)
                · have k3c : ¬ (mid : Int) < (E : Int) := by omega
                  go_wp2_with fail
                  all_goals (go_end0; exact ⟨rfl, hR.out, hB.out⟩)
            · have k2c : ¬ (a : Int) < (S : Int) := by omega
              by_cases k3 : mid < E ∧ E < b
              · have k3a : (mid : Int) < (E : Int) := by omega
                have k3b : (E : Int) < (b : Int) := by omega
                have SZ := hide (ih.out wr mid E b hR.out k3.1 k3.2 (by have := G.out; omega) (by have := G.out; omega))
                go_wp2_with fail
                all_goals (refine SZ.out.mono ?_; rintro e wc ⟨rfl, Rc, Bc⟩; replace Rc := hide Rc; replace Bc := hide (hB.out.trans Bc); clear SZ; go_wp2_with fail; go_end0; exact ⟨rfl, Rc.out, Bc.out⟩)
              · by_cases k3a : mid < E
                · have k3c : (mid : Int) < (E : Int) := by omega
                  have k3b : ¬ (E : Int) < (b : Int) := by omega
                  go_wp2_with fail
                  all_goals (go_end0; exact ⟨rfl, hR.out, hB.out⟩)
                · have k3c : ¬ (mid : Int) < (E : Int) := by omega
                  go_wp2_with fail
                  all_goals (go_end0; exact ⟨rfl, hR.out, hB.out⟩)

theorem sym_any (g n cap base : Nat) (hg : base ≤ g) (hn : n ≤ 1000) : ∀ (s : Nat) (w : World) (a m b : Nat), RowS w g n → a < m → m < b → b ≤ n → b - a ≤ s →
    Calls Try.prog 45 #[.slice (some ⟨g, 0, none⟩) n cap, .int .i64 (a : Int), .int .i64 (m : Int), .int .i64 (b : Int), .func (.func 33) #[] #[]] w fun e w' => e = .returned (.tuple #[]) ∧ RowS w' g n ∧ Below base w w' := by
  intro s
  induction s with
  | zero => intro w a m b _ h1 h2 _ h4; omega
  | succ s ih =>
    intro w a m b h h1 h2 h3 h4
    by_cases c1 : a + 1 = m
    · exact sym_left w g n cap base a m b h hg hn c1 h2 h3
    · by_cases c2 : m + 1 = b
      · exact sym_right w g n cap base a m b h hg hn (by omega) c2 h3
      · by_cases c3 : (a + b) / 2 < m
        · exact sym_hi w g n cap base a m b h hg hn (by omega) (by omega) h3 _ rfl c3 (fun w a' m' b' r1 r2 r3 r4 r5 => ih w a' m' b' r1 r2 r3 r4 (by omega))
        · exact sym_lo w g n cap base a m b h hg hn (by omega) (by omega) h3 _ rfl (by omega) (fun w a' m' b' r1 r2 r3 r4 r5 => ih w a' m' b' r1 r2 r3 r4 (by omega))
end Go.Proofs.Ytfkjdibhnabkaaa
