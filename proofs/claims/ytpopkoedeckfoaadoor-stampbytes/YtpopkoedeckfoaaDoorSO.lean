/-
  decoded.
-/
import Derived.Test.YtpopkoedeckfoaaDoorSN
import Derived.Deep.RegionHeld3
namespace Go.Proofs.YtpopkoedeckfoaaDoor
open Go.RowKit
set_option linter.unusedVariables false
set_option linter.unusedSimpArgs false

/-- What decoded reads at p: the error, the number, how many bits. -/
def dcd (n L D V N p : Nat) : Nat × Int × Nat :=
  if n = 0 then (if 8 * N < p + 46 then (50, 0, 0) else (0, ((rd V N p 46 : Nat) : Int), 46))
  else match rcs V N p 0 with
    | none => (50, 0, 0)
    | some c => if 8 * N < p + cAhead c + cSize c then (50, 0, 0) else if cls (rd V N (p + cAhead c) (cSize c)) ≠ c then (60, 0, 0) else (0, (L : Int) + (D : Int) + zag (rd V N (p + cAhead c) (cSize c)), cAhead c + cSize c)
theorem gtm_dcd {n L D V N p e k : Nat} {t : Int} (h : dcd n L D V N p = (e, t, k)) : (e ≠ 0 → gtm n L D V N p = (e, 0, 0)) ∧ (e = 0 → okTI (n : Int) (L : Int) t = true → 0 ≤ t ∧ gtm n L D V N p = (0, t.toNat, k)) ∧ (e = 0 → okTI (n : Int) (L : Int) t = false → gtm n L D V N p = (60, 0, 0)) := by
  unfold dcd at h
  unfold gtm
  by_cases hn : n = 0
  · rw [if_pos hn] at h ⊢
    by_cases h1 : 8 * N < p + 46
    · rw [if_pos h1] at h ⊢
      simp only [Prod.mk.injEq] at h
      obtain ⟨rfl, rfl, rfl⟩ := h
      simp
    · rw [if_neg h1] at h ⊢
      simp only [Prod.mk.injEq] at h
      obtain ⟨rfl, rfl, rfl⟩ := h
      refine ⟨fun h => absurd rfl h, fun _ h => ?_, fun _ h => ?_⟩
      · simp [okTI, isTim, hn] at h
        rw [if_neg (by omega)]
        exact ⟨by omega, by simp⟩
      · simp [okTI, isTim, hn] at h
        rw [if_pos (by omega)]
  · rw [if_neg hn] at h ⊢
    cases hc : rcs V N p 0 with
    | none =>
      rw [hc] at h
      simp only [Prod.mk.injEq] at h
      obtain ⟨rfl, rfl, rfl⟩ := h
      simp
    | some c =>
      rw [hc] at h
      simp only [gtc] at h ⊢
      by_cases h1 : 8 * N < p + cAhead c + cSize c
      · rw [if_pos h1] at h ⊢
        simp only [Prod.mk.injEq] at h
        obtain ⟨rfl, rfl, rfl⟩ := h
        simp
      · rw [if_neg h1] at h ⊢
        by_cases h2 : cls (rd V N (p + cAhead c) (cSize c)) ≠ c
        · rw [if_pos h2] at h ⊢
          simp only [Prod.mk.injEq] at h
          obtain ⟨rfl, rfl, rfl⟩ := h
          simp
        · rw [if_neg h2] at h ⊢
          simp only [Prod.mk.injEq] at h
          obtain ⟨rfl, rfl, rfl⟩ := h
          refine ⟨fun h => absurd rfl h, fun _ h => ?_, fun _ h => ?_⟩
          · simp [okTI, isTim, hn] at h
            rw [if_pos (by omega)]
            exact ⟨by omega, rfl⟩
          · simp [okTI, isTim, hn] at h
            rw [if_neg (by omega)]

theorem Box3.drawn {w : World} {g : Nat} {x y z : Value} (h : Box3 w g x y z) : Box3 w.drew g x y z := ⟨h.c0, h.c1, h.c2, h.f0, h.f1, h.f2, h.lt⟩
/-- What decoded does. -/
def Deco (n L D : Nat) (w : World) (base p : Nat) (v : Value) (l : List Int) (m : Nat) (e : Ending) (w' : World) : Prop :=
  ∃ er t k, dcd n L D (num l) l.length m = (er, t, k) ∧ (er = 0 ∨ er = 50 ∨ er = 60) ∧ e = .returned (.tuple #[.int .i64 t, .int .i64 (er : Int)]) ∧ (er = 0 → Rd w' base p v l (m + k)) ∧ But (fun k => k = p) w w'

set_option maxHeartbeats 4000000 in
theorem decoded0 {w : World} {base p m L D : Nat} {v : Value} {l : List Int} (h : Rd w base p v l m) (hT : Tab w) (hb0 : 0 < base) : Calls Tryd.prog 52 #[.pointer (some ⟨p, 0, none⟩), .agg #[.int .i64 0, .int .i64 (L : Int), .int .i64 (D : Int)]] w (Deco 0 L D w base p v l m) := by
  have B0 : Hid (Below w.heap.size w (w.alloc (.cells #[.int .i64 0, .int .i64 (L : Int), .int .i64 (D : Int)] 23))) := (Below.refl _ w).alloc (Nat.le_refl _) _
  have R0 := hide (h.below B0.out (Nat.le_refl _))
  clear h hT
  unfold Deco
  by_cases hroom : m + 46 ≤ 8 * l.length
  · obtain ⟨x, hx⟩ : ∃ x, rd (num l) l.length m 46 = x := ⟨_, rfl⟩
    have hd : Hid (dcd 0 L D (num l) l.length m = (0, (x : Int), 46)) := by
      show _ = _
      unfold dcd; rw [if_pos rfl, if_neg (by omega), hx]
    have hxl : x < 2 ^ 46 := by rw [← hx]; exact rd_lt _ _ _ _
    have hxi : (x : Int) < 70368744177664 := by omega
    have P := hide (getR R0.out 46 (ni := 46) (xi := (x : Int)) rfl hx rfl (by decide) hroom)
    clear hx hxl
    replace hroom := hide hroom
    go_enter Tryd.func52, Tryd.ntmps52
    go_wp2_with fail
    refine P.out.mono ?_
    rintro e w2 ⟨rfl, R2, b2⟩
    replace R2 := hide R2
    replace b2 := hide ((but_below B0.out).one_trans b2)
    clear P
    go_wp2_with fail
    go_ret2
    exact ⟨0, _, 46, hd.out, .inl rfl, rfl, fun _ => R2.out, b2.out⟩
  · have hd : Hid (dcd 0 L D (num l) l.length m = (50, 0, 0)) := by
      show _ = _
      unfold dcd; rw [if_pos rfl, if_pos (by omega)]
    have P := hide (getR_bits R0.out 46 (ni := 46) rfl (by decide) (by omega))
    go_enter Tryd.func52, Tryd.ntmps52
    go_wp2_with fail
    refine P.out.mono ?_
    rintro e w2 ⟨rfl, j, rfl⟩
    have b2 := hide ((but_below (p := p) B0.out).drewN j)
    clear P
    go_wp2_with fail
    go_ret2
    exact ⟨50, 0, 0, hd.out, .inr (.inl rfl), rfl, (fun h => by cases h), b2.out⟩

/-- How things stand within decoded: the reader, the state's box at g. -/
structure DS (w0 w : World) (base p : Nat) (v : Value) (l : List Int) (n g : Nat) (a b c : Value) : Prop where
  rd : Rd w base p v l n
  t : Tab w
  s : Box3 w g a b c
  but : But (fun k => k = p) w0 w
  gp : g ≠ p
  b0 : 0 < base
theorem DS.get {w0 w w' : World} {base p n n' g : Nat} {v a b c : Value} {l : List Int} (h : DS w0 w base p v l n g a b c) (hb : But (fun k => k = p) w w') (hr : Rd w' base p v l n') : DS w0 w' base p v l n' g a b c :=
  ⟨hr, h.t.but hb (by have := h.rd.lt; have := h.b0; omega), h.s.but hb h.gp, h.but.one_trans hb, h.gp, h.b0⟩
theorem DS.below {w0 w w' : World} {base p n g : Nat} {v a b c : Value} {l : List Int} (h : DS w0 w base p v l n g a b c) (hb : Below w.heap.size w w') : DS w0 w' base p v l n g a b c :=
  ⟨h.rd.below hb (Nat.le_refl _), h.t.kept hb h.t.pos, h.s.kept hb h.s.lt, h.but.one_trans (but_below hb), h.gp, h.b0⟩
theorem DS.drewN {w0 w : World} {base p n g : Nat} {v a b c : Value} {l : List Int} (h : DS w0 w base p v l n g a b c) (k : Nat) : DS w0 (w.drewN k) base p v l n g a b c :=
  ⟨h.rd.drewN k, h.t, ⟨h.s.c0, h.s.c1, h.s.c2, h.s.f0, h.s.f1, h.s.f2, h.s.lt⟩, h.but.drewN k, h.gp, h.b0⟩
theorem DS.drew {w0 w : World} {base p n g : Nat} {v a b c : Value} {l : List Int} (h : DS w0 w base p v l n g a b c) : DS w0 w.drew base p v l n g a b c :=
  ⟨⟨h.rd.1.drew, h.rd.2⟩, h.t, ⟨h.s.c0, h.s.c1, h.s.c2, h.s.f0, h.s.f1, h.s.f2, h.s.lt⟩, h.but.drew, h.gp, h.b0⟩
theorem DS.start {w : World} {base p n : Nat} {v : Value} {l : List Int} (h : Rd w base p v l n) (hT : Tab w) (hb0 : 0 < base) (a b c : Value) : DS w (w.alloc (.cells #[a, b, c] 23)) base p v l n w.heap.size a b c := by
  have B0 : Below w.heap.size w (w.alloc (.cells #[a, b, c] 23)) := (Below.refl _ w).alloc (Nat.le_refl _) _
  have := h.lt
  exact ⟨h.below B0 (Nat.le_refl _), hT.kept B0 hT.pos, Box3.new w _ _ _ 23, but_below B0, by omega, hb0⟩

set_option maxHeartbeats 4000000 in
theorem decoded1 {w : World} {base p m n L D : Nat} {v : Value} {l : List Int} (h : Rd w base p v l m) (hT : Tab w) (hb0 : 0 < base) (hs : OkS n L D) (hn : n ≠ 0) : Calls Tryd.prog 52 #[.pointer (some ⟨p, 0, none⟩), .agg #[.int .i64 (n : Int), .int .i64 (L : Int), .int .i64 (D : Int)]] w (Deco n L D w base p v l m) := by
  have E0 := hide (DS.start h hT hb0 (.int .i64 (n : Int)) (.int .i64 (L : Int)) (.int .i64 (D : Int)))
  have RCL := hide (readClass_any E0.out.rd E0.out.t hb0)
  have i0 : ¬ (n : Int) = 0 := by omega
  have hsl := hs.l
  have hsd := hs.d
  have i1 : (L : Int) ≤ 35184372088832 := by omega
  have i2 : (D : Int) ≤ 35184372088832 := by omega
  clear h hT hs hsl hsd
  replace hn := hide hn
  replace hb0 := hide hb0
  have s0 := E0.out.s.c0
  unfold Deco
  go_enter Tryd.func52, Tryd.ntmps52
  go_wp2_with fail
  refine RCL.out.mono ?_
  rintro e w2 ⟨⟨c, hc4, hc, rfl, R2⟩ | ⟨hc, rfl⟩, b2⟩
  · have E2 := hide (E0.out.get b2 R2)
    unfold clsV
    obtain ⟨mk, hmk⟩ : ∃ x, cMark c = x := ⟨_, rfl⟩
    obtain ⟨ah, hah⟩ : ∃ x, cAhead c = x := ⟨_, rfl⟩
    obtain ⟨sz, hsz⟩ : ∃ x, cSize c = x := ⟨_, rfl⟩
    have hsz48 : sz ≤ 48 := by rw [← hsz]; exact cSize_le c
    have hcl : ∀ z, Hid (z < 2 ^ sz → z < 281474976710656) := fun z hz => Nat.lt_of_lt_of_le hz (by have := Nat.pow_le_pow_right (n := 2) (by decide) hsz48; omega)
    rw [hmk, hah, hsz]
    rw [hah] at E2
    have E3 := hide (E2.out.below ((Below.refl w2.heap.size w2).alloc (Nat.le_refl _) (.cells #[.int .u64 (mk : Int), .int .i64 (ah : Int), .int .i64 (sz : Int)] 96)))
    have X3 := hide (Box3.new w2 (.int .u64 (mk : Int)) (.int .i64 (ah : Int)) (.int .i64 (sz : Int)) 96)
    have hgp : Hid (w2.heap.size ≠ p) := by have := E2.out.rd.lt; show _ ≠ _; omega
    replace hc := hide hc
    clear RCL E0 s0 R2 b2
    by_cases hroom : m + ah + sz ≤ 8 * l.length
    · obtain ⟨x, hx⟩ : ∃ x, rd (num l) l.length (m + ah) sz = x := ⟨_, rfl⟩
      have hxl : x < 281474976710656 := (hcl x).out (by rw [← hx]; exact rd_lt _ _ _ _)
      have P := hide (getR E3.out.rd sz (ni := (sz : Int)) (xi := (x : Int)) rfl hx rfl (by omega) hroom)
      replace hx := hide hx
      replace hroom := hide hroom
      replace hmk := hide hmk
      replace hah := hide hah
      replace hsz := hide hsz
      replace hcl := hide hcl
      have x0 := X3.out.c0
      have x1 := X3.out.c1
      have x2 := X3.out.c2
      have j1 : (sz : Int) ≤ 48 := by omega
      go_wp2_with fail
      refine P.out.mono ?_
      rintro e w4 ⟨rfl, R4, b4⟩
      have E4 := hide (E3.out.get b4 R4)
      have X4 := hide (X3.out.but b4 hgp.out)
      clear P R4 b4 E2 E3 X3 x0 x1 x2
      have C := hide (classOf_any x _ hxl E4.out.drew.t)
      unfold clsV at C
      have x0 := X4.out.c0
      have x1 := X4.out.c1
      have x2 := X4.out.c2
      by_cases hcc : cls x = c
      · have hdd : Hid (dcd n L D (num l) l.length m = (0, (L : Int) + (D : Int) + zag x, ah + sz)) := by
          show _ = _
          unfold dcd
          rw [if_neg hn.out, hc.out]
          simp only [hah.out, hsz.out]
          rw [if_neg (by have := hroom.out; omega), hx.out, if_neg (by simp [hcc])]
        rw [hcc, hmk.out, hah.out, hsz.out] at C
        have hneq : ∀ w, (binOp .neq 96 (.agg #[.int .u64 (mk : Int), .int .i64 (ah : Int), .int .i64 (sz : Int)]) (.agg #[.int .u64 (mk : Int), .int .i64 (ah : Int), .int .i64 (sz : Int)])).run Tryd.prog w = .ok (.bool false) w := fun w => by rw [run_neq96]; simp
        replace hcc := hide hcc
        have U := hide (unfold_any x · hxl)
        have hzb : -281474976710656 ≤ zag x ∧ zag x ≤ 281474976710656 := by unfold zag; split <;> omega
        have z1 := hzb.1
        have z2 := hzb.2
        clear hzb
        generalize zag x = zx at *
        go_upto_region 10 with fail
        go_region_held3 (fun w' => w'.cell? ⟨w2.heap.size, 0, none⟩ = some (.int .u64 (mk : Int)) ∧ w'.cell? ⟨w2.heap.size, 1, none⟩ = some (.int .i64 (ah : Int)) ∧ w'.cell? ⟨w2.heap.size, 2, none⟩ = some (.int .i64 (sz : Int))) (first | (exact ⟨x0, x1, x2⟩) | (exact ⟨y5.out.c0, y5.out.c1, y5.out.c2⟩)) (first | (go_at_call 51; refine C.out.mono ?_; rintro e w5 ⟨rfl, b5⟩; have y5 := hide (X4.out.drawn.kept b5 X4.out.lt)))
        have E5 := hide (E4.out.drew.below b5)
        have s0 := E5.out.s.c0
        have s1 := E5.out.s.c1
        have s2 := E5.out.s.c2
        clear C x0 x1 x2 b5 y5 hneq
        go_upto_region 12 with fail
        go_quiet ((go_at_call 55; exact Calls.quiet_of_same (U.out _)))
        go_wp2_with fail
        go_ret2
        exact ⟨0, _, _, hdd.out, .inl rfl, rfl, fun _ => by have := E5.out.rd.drewN nq; rwa [Nat.add_assoc] at this, (E5.out.drewN nq).but⟩
      · have hdd : Hid (dcd n L D (num l) l.length m = (60, 0, 0)) := by
          show _ = _
          unfold dcd
          rw [if_neg hn.out, hc.out]
          simp only [hah.out, hsz.out]
          rw [if_neg (by have := hroom.out; omega), hx.out, if_pos (by simp [hcc])]
        have hmne : ¬ (((cMark (cls x) : Nat) : Int) = (mk : Int)) := by
          have h1 := cls_le x
          rw [← hmk.out]
          rcases five h1 with h | h | h | h | h <;> rcases five hc4 with h' | h' | h' | h' | h' <;> rw [h, h'] <;> simp [cMark] <;> omega
        have hneq : ∀ w, (binOp .neq 96 (.agg #[.int .u64 ((cMark (cls x) : Nat) : Int), .int .i64 ((cAhead (cls x) : Nat) : Int), .int .i64 ((cSize (cls x) : Nat) : Int)]) (.agg #[.int .u64 (mk : Int), .int .i64 (ah : Int), .int .i64 (sz : Int)])).run Tryd.prog w = .ok (.bool true) w := fun w => by rw [run_neq96]; simp [hmne]
        replace hmne := hide hmne
        replace hcc := hide hcc
        generalize ((cMark (cls x) : Nat) : Int) = u0 at *
        generalize ((cAhead (cls x) : Nat) : Int) = u1 at *
        generalize ((cSize (cls x) : Nat) : Int) = u2 at *
        go_upto_region 10 with fail
        go_region_held3 (fun w' => w'.cell? ⟨w2.heap.size, 0, none⟩ = some (.int .u64 (mk : Int)) ∧ w'.cell? ⟨w2.heap.size, 1, none⟩ = some (.int .i64 (ah : Int)) ∧ w'.cell? ⟨w2.heap.size, 2, none⟩ = some (.int .i64 (sz : Int))) (first | (exact ⟨x0, x1, x2⟩) | (exact ⟨y5.out.c0, y5.out.c1, y5.out.c2⟩)) (first | (go_at_call 51; refine C.out.mono ?_; rintro e w5 ⟨rfl, b5⟩; have y5 := hide (X4.out.drawn.kept b5 X4.out.lt)))
        have E5 := hide (E4.out.drew.below b5)
        clear C x0 x1 x2 b5 y5 hneq
        go_wp2_with fail
        go_ret2
        exact ⟨60, _, _, hdd.out, .inr (.inr rfl), rfl, (fun h => by cases h), E5.out.but⟩
    · have hdd : Hid (dcd n L D (num l) l.length m = (50, 0, 0)) := by
        show _ = _
        unfold dcd
        rw [if_neg hn.out, hc.out]
        simp only [hah, hsz]
        rw [if_pos (by omega)]
      have P := hide (getR_bits E3.out.rd sz (ni := (sz : Int)) rfl (by omega) (by omega))
      replace hroom := hide hroom
      replace hmk := hide hmk
      replace hah := hide hah
      replace hsz := hide hsz
      replace hcl := hide hcl
      have x2 := X3.out.c2
      go_wp2_with fail
      refine P.out.mono ?_
      rintro e w4 ⟨rfl, j, rfl⟩
      have E4 := hide (E3.out.drewN j)
      clear P x2
      go_wp2_with fail
      go_ret2
      exact ⟨50, _, _, hdd.out, .inr (.inl rfl), rfl, (fun h => by cases h), E4.out.but⟩
  · have hdd : Hid (dcd n L D (num l) l.length m = (50, 0, 0)) := by
      show _ = _
      unfold dcd
      rw [if_neg hn.out, hc]
    have b2' := hide (E0.out.but.one_trans b2)
    replace hc := hide hc
    clear RCL E0 s0 b2
    go_wp2_with fail
    go_ret2
    exact ⟨50, _, _, hdd.out, .inr (.inl rfl), rfl, (fun h => by cases h), b2'.out.trans ((But.refl (fun k => k = p) _).alloc _) (fun _ _ h => h)⟩
end Go.Proofs.YtpopkoedeckfoaaDoor
