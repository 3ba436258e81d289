/-
  chunk.measure, chunk.Read.
-/
import Derived.Test.YtmjjedbdedemcaaGreatDoorTM
namespace Go.Proofs.YtmjjedbdedemcaaGreatDoor
open Go.RowKit
set_option linter.unusedVariables false
set_option linter.unusedSimpArgs false

theorem vread_ok (w : World) (a : Option Addr) (len cap : Nat) (l : List Int) (t : Nat) (h : Has w a len cap l) (hb : len ≤ 1099511627776) (ht : t ≤ len) {n k : Nat} (hr : rn (l.drop t) = some (n, k)) :
    Calls Tryz.prog 55 #[.slice a len cap, .int .i64 t] w fun e w' => e = .returned (.tuple #[.int .u64 (n : Int), .int .i64 ((t + k : Nat) : Int), .int .i64 0]) ∧ Below w.heap.size w w' := by
  refine (Read_rn w a len cap l t h hb ht).mono ?_
  rintro e w' ⟨⟨n', k', h1, rfl⟩ | ⟨h1, _⟩, B⟩
  · rw [hr] at h1; simp only [Option.some.injEq, Prod.mk.injEq] at h1; obtain ⟨rfl, rfl⟩ := h1; exact ⟨rfl, B⟩
  · rw [hr] at h1; cases h1
theorem vread_no (w : World) (a : Option Addr) (len cap : Nat) (l : List Int) (t : Nat) (h : Has w a len cap l) (hb : len ≤ 1099511627776) (ht : t ≤ len) (hr : rn (l.drop t) = none) :
    Calls Tryz.prog 55 #[.slice a len cap, .int .i64 t] w fun e w' => (∃ m : Int, m ≠ 0 ∧ e = .returned (.tuple #[.int .u64 0, .int .i64 0, .int .i64 m])) ∧ Below w.heap.size w w' := by
  refine (Read_rn w a len cap l t h hb ht).mono ?_
  rintro e w' ⟨⟨n', k', h1, _⟩ | ⟨_, h1⟩, B⟩
  · rw [hr] at h1; cases h1
  · exact ⟨h1, B⟩
/-- What measure hands out. -/
def MsT (l : List Int) (t : Nat) (w : World) (e : Ending) (w' : World) : Prop :=
  ((∃ n f c, ms l t = some (n, f, c) ∧ e = .returned (.tuple #[.int .i64 (n : Int), .int .i64 (f : Int), .int .i64 (c : Int), .int .i64 0])) ∨ (ms l t = none ∧ ∃ er : Int, er ≠ 0 ∧ e = .returned (.tuple #[.int .i64 0, .int .i64 0, .int .i64 0, .int .i64 er]))) ∧ Below w.heap.size w w'
set_option maxHeartbeats 2000000 in
set_option maxRecDepth 100000 in
theorem measure_any (w : World) (a : Option Addr) (len cap : Nat) (l : List Int) (t : Nat) (h : Has w a len cap l) (hb : len ≤ 1099511627776) (ht : t ≤ len) :
    Calls Tryz.prog 33 #[.slice a len cap, .int .i64 (t : Int)] w (MsT l t w) := by
  have hlen := h.hlen
  cases h1 : rn (l.drop t) with
  | none =>
    have R1 := hide (vread_no w a len cap l t h hb ht h1)
    have hms : Hid (ms l t = none) := by show ms l t = none; unfold ms; rw [h1]
    clear h h1
    go_enter Tryz.func33, Tryz.ntmps33
    go_wp2_with fail
    refine R1.out.mono ?_
    rintro e w1 ⟨⟨er, her, rfl⟩, b1⟩
    replace b1 := hide b1
    have hbe : (er != 0) = true := by rw [bne_iff_ne]; exact her
    clear R1
    go_wp2_with fail
    refine bodyPost_ret (v := .tuple #[.int .i64 0, .int .i64 0, .int .i64 0, .int .i64 er]) (by simp [results, Tryz.f33, go_sem]) rfl ?_
    exact ⟨.inr ⟨hms.out, er, her, rfl⟩, b1.out⟩
  | some r =>
    obtain ⟨n, k⟩ := r
    obtain ⟨-, hk, hk1, hn64⟩ := enc_rn (fun x hx => h.bytes x (List.mem_of_mem_drop hx)) h1
    rw [List.length_drop] at hk
    have R1 := hide (vread_ok w a len cap l t h hb ht h1)
    cases h2 : rn (l.drop (t + k)) with
    | none =>
      have R2 := hide (fun w' B => vread_no w' a len cap l (t + k) (h.kept B (Nat.le_refl _)) hb (by omega) h2)
      have hms : Hid (ms l t = none) := by show ms l t = none; unfold ms; rw [h1]; simp only; rw [h2]
      clear h h1 h2
      go_enter Tryz.func33, Tryz.ntmps33
      go_wp2_with fail
      refine R1.out.mono ?_
      rintro e w1 ⟨rfl, b1⟩
      replace b1 := hide b1
      clear R1
      obtain ⟨f1, hf1⟩ : ∃ f1, t + k = f1 := ⟨_, rfl⟩
      rw [hf1] at R2 ⊢
      replace hf1 := hide hf1
      go_wp2_with fail
      refine (R2.out w1 b1.out).mono ?_
      rintro e w2 ⟨⟨er, her, rfl⟩, b2⟩
      have B2 := hide (b1.out.trans (b2.mono b1.out.size))
      have hbe : (er != 0) = true := by rw [bne_iff_ne]; exact her
      clear R2 b1 b2
      go_wp2_with fail
      refine bodyPost_ret (v := .tuple #[.int .i64 0, .int .i64 0, .int .i64 0, .int .i64 er]) (by simp [results, Tryz.f33, go_sem]) rfl ?_
      exact ⟨.inr ⟨hms.out, er, her, rfl⟩, B2.out⟩
    | some r2 =>
      obtain ⟨m, j⟩ := r2
      obtain ⟨-, hj, hj1, hm64⟩ := enc_rn (fun x hx => h.bytes x (List.mem_of_mem_drop hx)) h2
      rw [List.length_drop] at hj
      have R2 := hide (fun w' B => vread_ok w' a len cap l (t + k) (h.kept B (Nat.le_refl _)) hb (by omega) h2)
      have hms : Hid (ms l t = if n = 0 ∨ 120 < n then none else if l.length < t + k + j + m + 4 then none else some (n, t + k + j, t + k + j + m + 4)) := by
        show ms l t = _; unfold ms; rw [h1]; simp only; rw [h2]
      clear h h1 h2
      obtain ⟨f1, hf1⟩ : ∃ f1, t + k = f1 := ⟨_, rfl⟩
      rw [hf1] at R1 R2 hms
      obtain ⟨f2, hf2⟩ : ∃ f2, f1 + j = f2 := ⟨_, rfl⟩
      rw [hf2] at R2 hms
      have hf2l : f2 ≤ len := by omega
      have g1 : (f2 : Int) ≤ (len : Int) := by omega
      have g2 : (len : Int) ≤ 1099511627776 := by omega
      have g3 : (0 : Int) ≤ (f2 : Int) := by omega
      have g4 : (0 : Int) ≤ (n : Int) := by omega
      have g5 : (n : Int) < 18446744073709551616 := by omega
      have g6 : (0 : Int) ≤ (m : Int) := by omega
      have g7 : (m : Int) < 18446744073709551616 := by omega
      replace hf1 := hide hf1
      replace hf2 := hide hf2
      replace hk := hide hk
      replace hj := hide hj
      clear hk1 hj1
      by_cases hc : n = 0 ∨ 120 < n
      · rw [if_pos hc] at hms
        by_cases hn0 : n = 0
        · subst hn0
          simp only [show ((0 : Nat) : Int) = 0 from rfl] at R1 g4 g5
          go_enter Tryz.func33, Tryz.ntmps33
          go_wp2_with fail
          refine R1.out.mono ?_
          rintro e w1 ⟨rfl, b1⟩
          replace b1 := hide b1
          clear R1
          go_wp2_with fail
          refine (R2.out w1 b1.out).mono ?_
          rintro e w2 ⟨rfl, b2⟩
          have B2 := hide (b1.out.trans (b2.mono b1.out.size))
          clear R2 b1 b2
          go_wp2_with fail
          refine bodyPost_ret (v := .tuple #[.int .i64 0, .int .i64 0, .int .i64 0, .int .i64 80]) (by simp [results, Tryz.f33, go_sem]) rfl ?_
          exact ⟨.inr ⟨hms.out, 80, by decide, rfl⟩, B2.out⟩
        · have g8 : (120 : Int) < (n : Int) := by omega
          have g9 : ¬ ((n : Int) = 0) := by omega
          go_enter Tryz.func33, Tryz.ntmps33
          go_wp2_with fail
          refine R1.out.mono ?_
          rintro e w1 ⟨rfl, b1⟩
          replace b1 := hide b1
          clear R1
          go_wp2_with fail
          refine (R2.out w1 b1.out).mono ?_
          rintro e w2 ⟨rfl, b2⟩
          have B2 := hide (b1.out.trans (b2.mono b1.out.size))
          clear R2 b1 b2
          go_wp2_with fail
          refine bodyPost_ret (v := .tuple #[.int .i64 0, .int .i64 0, .int .i64 0, .int .i64 80]) (by simp [results, Tryz.f33, go_sem]) rfl ?_
          exact ⟨.inr ⟨hms.out, 80, by decide, rfl⟩, B2.out⟩
      · rw [if_neg hc] at hms
        have g8 : (n : Int) ≤ 120 := by omega
        have g9 : ¬ ((n : Int) = 0) := by omega
        have k1 : ((n : Int) == 0) = false := by simpa using g9
        have k2 : decide ((120 : Int) < (n : Int)) = false := by simp; omega
        replace hc := hide hc
        obtain ⟨d, hd⟩ : ∃ d, len = f2 + d := ⟨len - f2, by omega⟩
        have gd : (len : Int) - (f2 : Int) = (d : Int) := by omega
        have gd1 : (d : Int) ≤ 1099511627776 := by omega
        have gd2 : (0 : Int) ≤ (d : Int) := by omega
        by_cases hr0 : len < f2 + 4
        · rw [if_pos (by omega)] at hms
          have g10 : (d : Int) < 4 := by omega
          have g11 : (d : Int) - 4 < 0 := by omega
          replace hd := hide hd
          replace hr0 := hide hr0
          replace hlen := hide hlen
          go_enter Tryz.func33, Tryz.ntmps33
          go_wp2_with fail
          refine R1.out.mono ?_
          rintro e w1 ⟨rfl, b1⟩
          replace b1 := hide b1
          clear R1
          go_wp2_with fail
          refine (R2.out w1 b1.out).mono ?_
          rintro e w2 ⟨rfl, b2⟩
          have B2 := hide (b1.out.trans (b2.mono b1.out.size))
          clear R2 b1 b2
          go_wp2_with fail
          refine bodyPost_ret (v := .tuple #[.int .i64 0, .int .i64 0, .int .i64 0, .int .i64 7]) (by simp [results, Tryz.f33, go_sem]) rfl ?_
          exact ⟨.inr ⟨hms.out, 7, by decide, rfl⟩, B2.out⟩
        · obtain ⟨r, hr⟩ : ∃ r, len = f2 + 4 + r := ⟨len - (f2 + 4), by omega⟩
          have g10 : (d : Int) - 4 = (r : Int) := by omega
          have g11 : (0 : Int) ≤ (r : Int) := by omega
          have g12 : (r : Int) ≤ 1099511627776 := by omega
          by_cases hmr : r < m
          · rw [if_pos (by omega)] at hms
            have g13 : (r : Int) < (m : Int) := by omega
            replace hr := hide hr
            replace hd := hide hd
            replace hr0 := hide hr0
            replace hlen := hide hlen
            go_enter Tryz.func33, Tryz.ntmps33
            go_wp2_with fail
            refine R1.out.mono ?_
            rintro e w1 ⟨rfl, b1⟩
            replace b1 := hide b1
            clear R1
            go_wp2_with fail
            refine (R2.out w1 b1.out).mono ?_
            rintro e w2 ⟨rfl, b2⟩
            have B2 := hide (b1.out.trans (b2.mono b1.out.size))
            clear R2 b1 b2
            go_wp2_with fail
            refine bodyPost_ret (v := .tuple #[.int .i64 0, .int .i64 0, .int .i64 0, .int .i64 7]) (by simp [results, Tryz.f33, go_sem]) rfl ?_
            exact ⟨.inr ⟨hms.out, 7, by decide, rfl⟩, B2.out⟩
          · rw [if_neg (by omega)] at hms
            have g13 : (m : Int) ≤ (r : Int) := by omega
            obtain ⟨c, hc⟩ : ∃ c, f2 + m + 4 = c := ⟨_, rfl⟩
            rw [hc] at hms
            have k3 : decide ((r : Int) < (m : Int)) = false := by simp; omega
            have k4 : decide (r < m) = false := by simp; omega
            have k5 : decide ((r : Int) < 0) = false := by simp
            obtain ⟨x, hx⟩ : ∃ x, f2 + m = x := ⟨_, rfl⟩
            have g14 : (f2 : Int) + (m : Int) = (x : Int) := by omega
            have g15 : (x : Int) + 4 = (c : Int) := by omega
            have g16 : (c : Int) ≤ 1099511627776 := by omega
            have g17 : (m : Int) ≤ 1099511627776 := by omega
            have g18 : (x : Int) ≤ 1099511627776 := by omega
            have g19 : (0 : Int) ≤ (x : Int) := by omega
            replace hx := hide hx
            replace hmr := hide hmr
            replace hr := hide hr
            replace hc := hide hc
            replace hd := hide hd
            replace hr0 := hide hr0
            replace hlen := hide hlen
            go_enter Tryz.func33, Tryz.ntmps33
            go_wp2_with fail
            refine R1.out.mono ?_
            rintro e w1 ⟨rfl, b1⟩
            replace b1 := hide b1
            clear R1
            go_wp2_with fail
            refine (R2.out w1 b1.out).mono ?_
            rintro e w2 ⟨rfl, b2⟩
            have B2 := hide (b1.out.trans (b2.mono b1.out.size))
            clear R2 b1 b2
            go_wp2_with fail
            refine bodyPost_ret (v := .tuple #[.int .i64 (n : Int), .int .i64 (f2 : Int), .int .i64 (c : Int), .int .i64 0]) (by simp [results, Tryz.f33, go_sem]) rfl ?_
            exact ⟨.inl ⟨n, f2, c, hms.out, rfl⟩, B2.out⟩
/-- What Read hands out. -/
def RdT (l : List Int) (t : Nat) (w : World) (e : Ending) (w' : World) : Prop :=
  ((∃ ss c ad cap, rdc l t = some (ss, c) ∧ e = .returned (.tuple #[.slice ad ss.length cap, .int .i64 (c : Int), .int .i64 0]) ∧ HasS w' ad ss.length cap (ss.map up)) ∨ (rdc l t = none ∧ ∃ er : Int, er ≠ 0 ∧ e = .returned (.tuple #[.slice none 0 0, .int .i64 0, .int .i64 er]))) ∧ Below w.heap.size w w'
theorem ms_facts {l : List Int} {t n f c : Nat} (hb : ∀ x ∈ l, 0 ≤ x ∧ x ≤ 255) (h : ms l t = some (n, f, c)) : n ≤ 120 ∧ t < f ∧ f + 4 ≤ c ∧ c ≤ l.length := by
  unfold ms at h
  split at h
  · cases h
  · rename_i n' k h1
    split at h
    · cases h
    · rename_i m j h2
      split at h
      · cases h
      · split at h
        · cases h
        · simp only [Option.some.injEq, Prod.mk.injEq] at h
          obtain ⟨rfl, rfl, rfl⟩ := h
          obtain ⟨-, -, a3, -⟩ := enc_rn (fun x hx => hb x (List.mem_of_mem_drop hx)) h1
          exact ⟨by omega, by omega, by omega, by omega⟩
theorem rdc_no1 {l : List Int} {t n f c : Nat} (h : ms l t = some (n, f, c)) (hs : ¬ sumOk ((l.drop t).take (c - t))) : rdc l t = none := by
  unfold rdc; rw [h]; simp only; rw [if_neg hs]
theorem rdc_no2 {l : List Int} {t n f c : Nat} (h : ms l t = some (n, f, c)) (hs : sumOk ((l.drop t).take (c - t))) (hu : upk ((l.drop f).take (c - 4 - f)) n = none) : rdc l t = none := by
  unfold rdc; rw [h]; simp only; rw [if_pos hs, hu]
theorem rdc_yes {l : List Int} {t n f c : Nat} {ss : List Sm} (h : ms l t = some (n, f, c)) (hs : sumOk ((l.drop t).take (c - t))) (hu : upk ((l.drop f).take (c - 4 - f)) n = some ss) : rdc l t = some (ss, c) := by
  unfold rdc; rw [h]; simp only; rw [if_pos hs, hu]
theorem Has.cut2 {w : World} {bk off len cap : Nat} {l : List Int} (h : Has w (some ⟨bk, off, none⟩) len cap l) (i j : Nat) (hij : i ≤ j) (hj : j ≤ len) : Has w (some ⟨bk, off + i, none⟩) (j - i) (cap - i) ((l.drop i).take (j - i)) := by
  have := (h.cut i (by omega)).front (j - i) (by omega)
  simpa [add_plain] using this
set_option maxHeartbeats 2000000 in
set_option maxRecDepth 100000 in
theorem cRead_any (w : World) (a : Option Addr) (len cap : Nat) (l : List Int) (t : Nat) (h : Has w a len cap l) (hT : Tabs w) (hb : len ≤ 1099511627776) (ht : t ≤ len) :
    Calls Tryz.prog 15 #[.slice a len cap, .int .i64 (t : Int)] w (RdT l t w) := by
  have MS := hide (measure_any w a len cap l t h hb ht)
  have hlen := h.hlen
  have hle := h.le
  have hcap := h.capb
  unfold maxLen at hcap
  have hby := hide h.bytes
  cases hms : ms l t with
  | none =>
    have hrd : Hid (rdc l t = none) := by show rdc l t = none; unfold rdc; rw [hms]
    clear h hT
    go_enter Tryz.func15, Tryz.ntmps15
    go_wp2_with fail
    refine MS.out.mono ?_
    rintro e w1 ⟨⟨n, f, c, h1, _⟩ | ⟨_, er, her, rfl⟩, b1⟩
    · rw [hms] at h1; cases h1
    · replace b1 := hide b1
      have hbe : (er != 0) = true := by rw [bne_iff_ne]; exact her
      clear MS hms
      go_wp2_with fail
      refine bodyPost_ret (v := .tuple #[.slice none 0 0, .int .i64 0, .int .i64 er]) (by simp [results, Tryz.f15, go_sem]) rfl ?_
      exact ⟨.inr ⟨hrd.out, er, her, rfl⟩, b1.out⟩
  | some r =>
    obtain ⟨n, f, c⟩ := r
    obtain ⟨hn, htf, hfc, hcl⟩ := ms_facts hby.out hms
    obtain ⟨bk, off, rfl, hbk, hcells⟩ := h.cells (by omega)
    have H1 := hide (h.cut2 t c (by omega) (by omega))
    have H2 := hide (h.cut2 f (c - 4) (by omega) (by omega))
    obtain ⟨x, hx⟩ : ∃ x, c = x + 4 := ⟨c - 4, by omega⟩
    obtain ⟨d1, hd1⟩ : ∃ d, c = t + d := ⟨c - t, by omega⟩
    obtain ⟨d2, hd2⟩ : ∃ d, x = f + d := ⟨x - f, by omega⟩
    obtain ⟨C1, hC1⟩ : ∃ C, (l.drop t).take (c - t) = C := ⟨_, rfl⟩
    obtain ⟨C2, hC2⟩ : ∃ C, (l.drop f).take (c - 4 - f) = C := ⟨_, rfl⟩
    have hy1 := hide (fun (h : ¬ sumOk C1) => rdc_no1 hms (by rw [hC1]; exact h))
    have hy2 := hide (fun (h : sumOk C1) (k : upk C2 n = none) => rdc_no2 hms (by rw [hC1]; exact h) (by rw [hC2]; exact k))
    have hy3 := hide (fun (h : sumOk C1) (ss : List Sm) (k : upk C2 n = some ss) => rdc_yes hms (by rw [hC1]; exact h) (by rw [hC2]; exact k))
    have hC1l : C1.length = d1 := by rw [← hC1]; simp; omega
    rw [hC1, show c - t = d1 by omega] at H1
    rw [hC2, show c - 4 - f = d2 by omega] at H2
    have hct : ¬ cap = t := by omega
    have hcf : ¬ cap = f := by omega
    have g1 : (t : Int) ≤ (c : Int) := by omega
    have g2 : (c : Int) ≤ (len : Int) := by omega
    have g3 : (c : Int) ≤ (cap : Int) := by omega
    have g4 : (c : Int) - 4 = (x : Int) := by omega
    have g5 : (f : Int) ≤ (x : Int) := by omega
    have g6 : (x : Int) ≤ (cap : Int) := by omega
    have g7 : (x : Int) ≤ (len : Int) := by omega
    have g8 : c - t = d1 := by omega
    have g9 : x - f = d2 := by omega
    have e1 : (c : Int) - (t : Int) = (d1 : Int) := by omega
    have e2 : (x : Int) - (f : Int) = (d2 : Int) := by omega
    have hd1l : d1 ≤ 1099511627776 := by omega
    have hd2l : d2 ≤ 1099511627776 := by omega
    have hd14 : 4 ≤ d1 := by omega
    have hT2 := hide hT
    replace hx := hide hx
    replace hd1 := hide hd1
    replace hd2 := hide hd2
    replace hC1 := hide hC1
    replace hC2 := hide hC2
    replace hcells := hide hcells
    replace h := hide h
    clear hT
    go_enter Tryz.func15, Tryz.ntmps15
    go_wp2_with fail
    refine MS.out.mono ?_
    rintro e w1 ⟨⟨n', f', c', h1, rfl⟩ | ⟨h1, _⟩, b1⟩
    · rw [hms] at h1
      simp only [Option.some.injEq, Prod.mk.injEq] at h1
      obtain ⟨rfl, rfl, rfl⟩ := h1
      have T1 := hide (hT2.out.below b1)
      have H1' := hide (H1.out.kept b1 (Nat.le_refl _))
      have H2' := hide (H2.out.kept b1 (Nat.le_refl _))
      replace b1 := hide b1
      clear MS H1 H2 hT2 hms
      by_cases hs : sumOk C1
      · have OP := hide (open_any w1 _ d1 _ C1 H1'.out hd1l (d1 - 4) (by omega) T1.out.c (by unfold sumOk at hs; rw [hC1l] at hs; exact hs))
        go_wp2_with fail
        refine OP.out.mono ?_
        rintro e w2 ⟨a2, n2, c2, rfl, -, b2⟩
        have UP := hide (unpack_any w2 _ d2 _ C2 n (by omega) (H2'.out.kept b2 (Nat.le_refl _)) hd2l (T1.out.below b2))
        have B2 := hide (b1.out.trans (b2.mono b1.out.size))
        clear OP b2 b1 H1' H2' T1
        go_wp2_with fail
        refine UP.out.mono ?_
        rintro e w3 ⟨⟨ss, ad, cp, hu, rfl, HS⟩ | ⟨hu, ad, n3, cp, rfl⟩, b3⟩
        · have B3 := hide (B2.out.trans (b3.mono B2.out.size))
          have hr := hide (hy3.out hs ss hu)
          have hnl : Hid (n = ss.length) := by have := HS.hlen; show n = _; simpa using this.symm
          replace HS := hide HS
          clear UP b3 B2 hu hy1 hy2 hy3
          go_wp2_with fail
          refine bodyPost_ret (v := .tuple #[.slice ad n cp, .int .i64 (c : Int), .int .i64 0]) (by simp [results, Tryz.f15, go_sem]) rfl ?_
          exact ⟨.inl ⟨ss, c, ad, cp, hr.out, by rw [hnl.out], by rw [← hnl.out]; exact HS.out⟩, B3.out⟩
        · have B3 := hide (B2.out.trans (b3.mono B2.out.size))
          have hr := hide (hy2.out hs hu)
          clear UP b3 B2 hu hy1 hy2 hy3
          go_wp2_with fail
          refine bodyPost_ret (v := .tuple #[.slice none 0 0, .int .i64 0, .int .i64 80]) (by simp [results, Tryz.f15, go_sem]) rfl ?_
          exact ⟨.inr ⟨hr.out, 80, by decide, rfl⟩, B3.out⟩
      · have OP := hide (open_not w1 _ d1 _ C1 H1'.out (d1 - 4) (by omega) T1.out.c (by unfold sumOk at hs; rw [hC1l] at hs; exact hs))
        have hr := hide (hy1.out hs)
        clear hy1 hy2 hy3
        go_wp2_with fail
        refine OP.out.mono ?_
        rintro e w2 ⟨rfl, b2⟩
        have B2 := hide (b1.out.trans (b2.mono b1.out.size))
        clear OP b2 b1 H1' H2' T1
        go_wp2_with fail
        refine bodyPost_ret (v := .tuple #[.slice none 0 0, .int .i64 0, .int .i64 80]) (by simp [results, Tryz.f15, go_sem]) rfl ?_
        exact ⟨.inr ⟨hr.out, 80, by decide, rfl⟩, B2.out⟩
    · rw [hms] at h1; cases h1
end Go.Proofs.YtmjjedbdedemcaaGreatDoor
