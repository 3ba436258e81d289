/-
  stamp.Get.
-/
import Derived.Test.YtmjjedbdedemcaaGreatDoorSC
import Derived.Deep.RegionHeld3
namespace Go.Proofs.YtmjjedbdedemcaaGreatDoor
open Go.RowKit
set_option linter.unusedVariables false

set_option linter.unusedSimpArgs false

/-- What decoded reads at p: the error, the number, how many bits. -/
def dcd (n L D V N p : Nat) : Nat × Int × Nat :=
  if n = 0 then (if 8 * N < p + 46 then (50, 0, 0) else (0, ((rd V N p 46 : Nat) : Int), 46))
  else match rcs V N p 0 with
    | none => (50, 0, 0)
    | some c => if 8 * N < p + cAhead c + cSize c then (50, 0, 0) else if cls (rd V N (p + cAhead c) (cSize c)) ≠ c then (60, 0, 0) else (0, (L : Int) + (D : Int) + zag (rd V N (p + cAhead c) (cSize c)), cAhead c + cSize c)
theorem gtm_dcd {n L D V N p e k : Nat} {t : Int} (h : dcd n L D V N p = (e, t, k)) : (e ≠ 0 → gtm n L D V N p = (e, 0, 0)) ∧ (e = 0 → okTI (n : Int) (L : Int) t = true → 0 ≤ t ∧ gtm n L D V N p = (0, t.toNat, k)) ∧ (e = 0 → okTI (n : Int) (L : Int) t = false → gtm n L D V N p = (60, 0, 0)) := by
  unfold dcd at h
  unfold gtm
  by_cases hn : n = 0
  · rw [if_pos hn] at h ⊢
    by_cases h1 : 8 * N < p + 46
    · rw [if_pos h1] at h ⊢
      simp only [Prod.mk.injEq] at h
      obtain ⟨rfl, rfl, rfl⟩ := h
      simp
    · rw [if_neg h1] at h ⊢
      simp only [Prod.mk.injEq] at h
      obtain ⟨rfl, rfl, rfl⟩ := h
      refine ⟨fun h => absurd rfl h, fun _ h => ?_, fun _ h => ?_⟩
      · simp [okTI, isTim, hn] at h
        rw [if_neg (by omega)]
        exact ⟨by omega, by simp⟩
      · simp [okTI, isTim, hn] at h
        rw [if_pos (by omega)]
  · rw [if_neg hn] at h ⊢
    cases hc : rcs V N p 0 with
    | none =>
      rw [hc] at h
      simp only [Prod.mk.injEq] at h
      obtain ⟨rfl, rfl, rfl⟩ := h
      simp
    | some c =>
      rw [hc] at h
      simp only [gtc] at h ⊢
      by_cases h1 : 8 * N < p + cAhead c + cSize c
      · rw [if_pos h1] at h ⊢
        simp only [Prod.mk.injEq] at h
        obtain ⟨rfl, rfl, rfl⟩ := h
        simp
      · rw [if_neg h1] at h ⊢
        by_cases h2 : cls (rd V N (p + cAhead c) (cSize c)) ≠ c
        · rw [if_pos h2] at h ⊢
          simp only [Prod.mk.injEq] at h
          obtain ⟨rfl, rfl, rfl⟩ := h
          simp
        · rw [if_neg h2] at h ⊢
          simp only [Prod.mk.injEq] at h
          obtain ⟨rfl, rfl, rfl⟩ := h
          refine ⟨fun h => absurd rfl h, fun _ h => ?_, fun _ h => ?_⟩
          · simp [okTI, isTim, hn] at h
            rw [if_pos (by omega)]
            exact ⟨by omega, rfl⟩
          · simp [okTI, isTim, hn] at h
            rw [if_neg (by omega)]

theorem Box3.drawn {w : World} {g : Nat} {x y z : Value} (h : Box3 w g x y z) : Box3 w.drew g x y z := ⟨h.c0, h.c1, h.c2, h.f0, h.f1, h.f2, h.lt⟩
/-- What decoded does. -/
def Deco (n L D : Nat) (w : World) (base p : Nat) (v : Value) (l : List Int) (m : Nat) (e : Ending) (w' : World) : Prop :=
  ∃ er t k, dcd n L D (num l) l.length m = (er, t, k) ∧ (er = 0 ∨ er = 50 ∨ er = 60) ∧ e = .returned (.tuple #[.int .i64 t, .int .i64 (er : Int)]) ∧ (er = 0 → Rd w' base p v l (m + k)) ∧ But (fun k => k = p) w w'

set_option maxHeartbeats 4000000 in
theorem decoded0 {w : World} {base p m L D : Nat} {v : Value} {l : List Int} (h : Rd w base p v l m) (hT : TabS w) (hb0 : 0 < base) : Calls Tryz.prog 109 #[.pointer (some ⟨p, 0, none⟩), .agg #[.int .i64 0, .int .i64 (L : Int), .int .i64 (D : Int)]] w (Deco 0 L D w base p v l m) := by
  have B0 : Hid (Below w.heap.size w (w.alloc (.cells #[.int .i64 0, .int .i64 (L : Int), .int .i64 (D : Int)] 60))) := (Below.refl _ w).alloc (Nat.le_refl _) _
  have R0 := hide (h.below B0.out (Nat.le_refl _))
  clear h hT
  unfold Deco
  by_cases hroom : m + 46 ≤ 8 * l.length
  · obtain ⟨x, hx⟩ : ∃ x, rd (num l) l.length m 46 = x := ⟨_, rfl⟩
    have hd : Hid (dcd 0 L D (num l) l.length m = (0, (x : Int), 46)) := by
      show _ = _
      unfold dcd; rw [if_pos rfl, if_neg (by omega), hx]
    have hxl : x < 2 ^ 46 := by rw [← hx]; exact rd_lt _ _ _ _
    have hxi : (x : Int) < 70368744177664 := by omega
    have P := hide (getR R0.out 46 (ni := 46) (xi := (x : Int)) rfl hx rfl (by decide) hroom)
    clear hx hxl
    replace hroom := hide hroom
    go_enter Tryz.func109, Tryz.ntmps109
    go_wp2_with fail
    refine P.out.mono ?_
    rintro e w2 ⟨rfl, R2, b2⟩
    replace R2 := hide R2
    replace b2 := hide ((but_below B0.out).one_trans b2)
    clear P
    go_wp2_with fail
    go_ret2
    exact ⟨0, _, 46, hd.out, .inl rfl, rfl, fun _ => R2.out, b2.out⟩
  · have hd : Hid (dcd 0 L D (num l) l.length m = (50, 0, 0)) := by
      show _ = _
      unfold dcd; rw [if_pos rfl, if_pos (by omega)]
    have P := hide (getR_bits R0.out 46 (ni := 46) rfl (by decide) (by omega))
    go_enter Tryz.func109, Tryz.ntmps109
    go_wp2_with fail
    refine P.out.mono ?_
    rintro e w2 ⟨rfl, j, rfl⟩
    have b2 := hide ((but_below (p := p) B0.out).drewN j)
    clear P
    go_wp2_with fail
    go_ret2
    exact ⟨50, 0, 0, hd.out, .inr (.inl rfl), rfl, (fun h => by cases h), b2.out⟩

/-- How things stand within decoded: the reader, the state's box at g. -/
structure DS (w0 w : World) (base p : Nat) (v : Value) (l : List Int) (n g : Nat) (a b c : Value) : Prop where
  rd : Rd w base p v l n
  t : TabS w
  s : Box3 w g a b c
  but : But (fun k => k = p) w0 w
  gp : g ≠ p
  b0 : 0 < base
theorem DS.get {w0 w w' : World} {base p n n' g : Nat} {v a b c : Value} {l : List Int} (h : DS w0 w base p v l n g a b c) (hb : But (fun k => k = p) w w') (hr : Rd w' base p v l n') : DS w0 w' base p v l n' g a b c :=
  ⟨hr, h.t.but hb (by have := h.rd.lt; have := h.b0; omega), h.s.but hb h.gp, h.but.one_trans hb, h.gp, h.b0⟩
theorem DS.below {w0 w w' : World} {base p n g : Nat} {v a b c : Value} {l : List Int} (h : DS w0 w base p v l n g a b c) (hb : Below w.heap.size w w') : DS w0 w' base p v l n g a b c :=
  ⟨h.rd.below hb (Nat.le_refl _), h.t.kept hb h.t.pos, h.s.kept hb h.s.lt, h.but.one_trans (but_below hb), h.gp, h.b0⟩
theorem DS.drewN {w0 w : World} {base p n g : Nat} {v a b c : Value} {l : List Int} (h : DS w0 w base p v l n g a b c) (k : Nat) : DS w0 (w.drewN k) base p v l n g a b c :=
  ⟨h.rd.drewN k, h.t, ⟨h.s.c0, h.s.c1, h.s.c2, h.s.f0, h.s.f1, h.s.f2, h.s.lt⟩, h.but.drewN k, h.gp, h.b0⟩
theorem DS.drew {w0 w : World} {base p n g : Nat} {v a b c : Value} {l : List Int} (h : DS w0 w base p v l n g a b c) : DS w0 w.drew base p v l n g a b c :=
  ⟨⟨h.rd.1.drew, h.rd.2⟩, h.t, ⟨h.s.c0, h.s.c1, h.s.c2, h.s.f0, h.s.f1, h.s.f2, h.s.lt⟩, h.but.drew, h.gp, h.b0⟩
theorem DS.start {w : World} {base p n : Nat} {v : Value} {l : List Int} (h : Rd w base p v l n) (hT : TabS w) (hb0 : 0 < base) (a b c : Value) : DS w (w.alloc (.cells #[a, b, c] 60)) base p v l n w.heap.size a b c := by
  have B0 : Below w.heap.size w (w.alloc (.cells #[a, b, c] 60)) := (Below.refl _ w).alloc (Nat.le_refl _) _
  have := h.lt
  exact ⟨h.below B0 (Nat.le_refl _), hT.kept B0 hT.pos, Box3.new w _ _ _ 60, but_below B0, by omega, hb0⟩

set_option maxHeartbeats 4000000 in
theorem decoded1 {w : World} {base p m n L D : Nat} {v : Value} {l : List Int} (h : Rd w base p v l m) (hT : TabS w) (hb0 : 0 < base) (hs : OkS n L D) (hn : n ≠ 0) : Calls Tryz.prog 109 #[.pointer (some ⟨p, 0, none⟩), .agg #[.int .i64 (n : Int), .int .i64 (L : Int), .int .i64 (D : Int)]] w (Deco n L D w base p v l m) := by
  have E0 := hide (DS.start h hT hb0 (.int .i64 (n : Int)) (.int .i64 (L : Int)) (.int .i64 (D : Int)))
  have RCL := hide (readClass_any E0.out.rd E0.out.t hb0)
  have i0 : ¬ (n : Int) = 0 := by omega
  have hsl := hs.l
  have hsd := hs.d
  have i1 : (L : Int) ≤ 35184372088832 := by omega
  have i2 : (D : Int) ≤ 35184372088832 := by omega
  clear h hT hs hsl hsd
  replace hn := hide hn
  replace hb0 := hide hb0
  have s0 := E0.out.s.c0
  unfold Deco
  go_enter Tryz.func109, Tryz.ntmps109
  go_wp2_with fail
  refine RCL.out.mono ?_
  rintro e w2 ⟨⟨c, hc4, hc, rfl, R2⟩ | ⟨hc, rfl⟩, b2⟩
  · have E2 := hide (E0.out.get b2 R2)
    unfold clsV
    obtain ⟨mk, hmk⟩ : ∃ x, cMark c = x := ⟨_, rfl⟩
    obtain ⟨ah, hah⟩ : ∃ x, cAhead c = x := ⟨_, rfl⟩
    obtain ⟨sz, hsz⟩ : ∃ x, cSize c = x := ⟨_, rfl⟩
    have hsz48 : sz ≤ 48 := by rw [← hsz]; exact cSize_le c
    have hcl : ∀ z, Hid (z < 2 ^ sz → z < 281474976710656) := fun z hz => Nat.lt_of_lt_of_le hz (by have := Nat.pow_le_pow_right (n := 2) (by decide) hsz48; omega)
    rw [hmk, hah, hsz]
    rw [hah] at E2
    have E3 := hide (E2.out.below ((Below.refl w2.heap.size w2).alloc (Nat.le_refl _) (.cells #[.int .u64 (mk : Int), .int .i64 (ah : Int), .int .i64 (sz : Int)] 145)))
    have X3 := hide (Box3.new w2 (.int .u64 (mk : Int)) (.int .i64 (ah : Int)) (.int .i64 (sz : Int)) 145)
    have hgp : Hid (w2.heap.size ≠ p) := by have := E2.out.rd.lt; show _ ≠ _; omega
    replace hc := hide hc
    clear RCL E0 s0 R2 b2
    by_cases hroom : m + ah + sz ≤ 8 * l.length
    · obtain ⟨x, hx⟩ : ∃ x, rd (num l) l.length (m + ah) sz = x := ⟨_, rfl⟩
      have hxl : x < 281474976710656 := (hcl x).out (by rw [← hx]; exact rd_lt _ _ _ _)
      have P := hide (getR E3.out.rd sz (ni := (sz : Int)) (xi := (x : Int)) rfl hx rfl (by omega) hroom)
      replace hx := hide hx
      replace hroom := hide hroom
      replace hmk := hide hmk
      replace hah := hide hah
      replace hsz := hide hsz
      replace hcl := hide hcl
      have x0 := X3.out.c0
      have x1 := X3.out.c1
      have x2 := X3.out.c2
      have j1 : (sz : Int) ≤ 48 := by omega
      go_wp2_with fail
      refine P.out.mono ?_
      rintro e w4 ⟨rfl, R4, b4⟩
      have E4 := hide (E3.out.get b4 R4)
      have X4 := hide (X3.out.but b4 hgp.out)
      clear P R4 b4 E2 E3 X3 x0 x1 x2
      have C := hide (classOf_any x _ hxl E4.out.drew.t)
      unfold clsV at C
      have x0 := X4.out.c0
      have x1 := X4.out.c1
      have x2 := X4.out.c2
      by_cases hcc : cls x = c
      · have hdd : Hid (dcd n L D (num l) l.length m = (0, (L : Int) + (D : Int) + zag x, ah + sz)) := by
          show _ = _
          unfold dcd
          rw [if_neg hn.out, hc.out]
          simp only [hah.out, hsz.out]
          rw [if_neg (by have := hroom.out; omega), hx.out, if_neg (by simp [hcc])]
        rw [hcc, hmk.out, hah.out, hsz.out] at C
        have hneq : ∀ w, (binOp .neq 145 (.agg #[.int .u64 (mk : Int), .int .i64 (ah : Int), .int .i64 (sz : Int)]) (.agg #[.int .u64 (mk : Int), .int .i64 (ah : Int), .int .i64 (sz : Int)])).run Tryz.prog w = .ok (.bool false) w := fun w => by rw [run_neq96]; simp
        replace hcc := hide hcc
        have U := hide (unfold_any x · hxl)
        have hzb : -281474976710656 ≤ zag x ∧ zag x ≤ 281474976710656 := by unfold zag; split <;> omega
        have z1 := hzb.1
        have z2 := hzb.2
        clear hzb
        generalize zag x = zx at *
        go_upto_region 10 with fail
        go_region_held3 (fun w' => w'.cell? ⟨w2.heap.size, 0, none⟩ = some (.int .u64 (mk : Int)) ∧ w'.cell? ⟨w2.heap.size, 1, none⟩ = some (.int .i64 (ah : Int)) ∧ w'.cell? ⟨w2.heap.size, 2, none⟩ = some (.int .i64 (sz : Int))) (first | (exact ⟨x0, x1, x2⟩) | (exact ⟨y5.out.c0, y5.out.c1, y5.out.c2⟩)) (first | (go_at_call 89; refine C.out.mono ?_; rintro e w5 ⟨rfl, b5⟩; have y5 := hide (X4.out.drawn.kept b5 X4.out.lt)))
        have E5 := hide (E4.out.drew.below b5)
        have s0 := E5.out.s.c0
        have s1 := E5.out.s.c1
        have s2 := E5.out.s.c2
        clear C x0 x1 x2 b5 y5 hneq
        go_upto_region 12 with fail
        go_quiet ((go_at_call 112; exact Calls.quiet_of_same (U.out _)))
        go_wp2_with fail
        go_ret2
        exact ⟨0, _, _, hdd.out, .inl rfl, rfl, fun _ => by have := E5.out.rd.drewN nq; rwa [Nat.add_assoc] at this, (E5.out.drewN nq).but⟩
      · have hdd : Hid (dcd n L D (num l) l.length m = (60, 0, 0)) := by
          show _ = _
          unfold dcd
          rw [if_neg hn.out, hc.out]
          simp only [hah.out, hsz.out]
          rw [if_neg (by have := hroom.out; omega), hx.out, if_pos (by simp [hcc])]
        have hmne : ¬ (((cMark (cls x) : Nat) : Int) = (mk : Int)) := by
          have h1 := cls_le x
          rw [← hmk.out]
          rcases five h1 with h | h | h | h | h <;> rcases five hc4 with h' | h' | h' | h' | h' <;> rw [h, h'] <;> simp [cMark] <;> omega
        have hneq : ∀ w, (binOp .neq 145 (.agg #[.int .u64 ((cMark (cls x) : Nat) : Int), .int .i64 ((cAhead (cls x) : Nat) : Int), .int .i64 ((cSize (cls x) : Nat) : Int)]) (.agg #[.int .u64 (mk : Int), .int .i64 (ah : Int), .int .i64 (sz : Int)])).run Tryz.prog w = .ok (.bool true) w := fun w => by rw [run_neq96]; simp [hmne]
        replace hmne := hide hmne
        replace hcc := hide hcc
        generalize ((cMark (cls x) : Nat) : Int) = u0 at *
        generalize ((cAhead (cls x) : Nat) : Int) = u1 at *
        generalize ((cSize (cls x) : Nat) : Int) = u2 at *
        go_upto_region 10 with fail
        go_region_held3 (fun w' => w'.cell? ⟨w2.heap.size, 0, none⟩ = some (.int .u64 (mk : Int)) ∧ w'.cell? ⟨w2.heap.size, 1, none⟩ = some (.int .i64 (ah : Int)) ∧ w'.cell? ⟨w2.heap.size, 2, none⟩ = some (.int .i64 (sz : Int))) (first | (exact ⟨x0, x1, x2⟩) | (exact ⟨y5.out.c0, y5.out.c1, y5.out.c2⟩)) (first | (go_at_call 89; refine C.out.mono ?_; rintro e w5 ⟨rfl, b5⟩; have y5 := hide (X4.out.drawn.kept b5 X4.out.lt)))
        have E5 := hide (E4.out.drew.below b5)
        clear C x0 x1 x2 b5 y5 hneq
        go_wp2_with fail
        go_ret2
        exact ⟨60, _, _, hdd.out, .inr (.inr rfl), rfl, (fun h => by cases h), E5.out.but⟩
    · have hdd : Hid (dcd n L D (num l) l.length m = (50, 0, 0)) := by
        show _ = _
        unfold dcd
        rw [if_neg hn.out, hc.out]
        simp only [hah, hsz]
        rw [if_pos (by omega)]
      have P := hide (getR_bits E3.out.rd sz (ni := (sz : Int)) rfl (by omega) (by omega))
      replace hroom := hide hroom
      replace hmk := hide hmk
      replace hah := hide hah
      replace hsz := hide hsz
      replace hcl := hide hcl
      have x2 := X3.out.c2
      go_wp2_with fail
      refine P.out.mono ?_
      rintro e w4 ⟨rfl, j, rfl⟩
      have E4 := hide (E3.out.drewN j)
      clear P x2
      go_wp2_with fail
      go_ret2
      exact ⟨50, _, _, hdd.out, .inr (.inl rfl), rfl, (fun h => by cases h), E4.out.but⟩
  · have hdd : Hid (dcd n L D (num l) l.length m = (50, 0, 0)) := by
      show _ = _
      unfold dcd
      rw [if_neg hn.out, hc]
    have b2' := hide (E0.out.but.one_trans b2)
    replace hc := hide hc
    clear RCL E0 s0 b2
    go_wp2_with fail
    go_ret2
    exact ⟨50, _, _, hdd.out, .inr (.inl rfl), rfl, (fun h => by cases h), b2'.out.trans ((But.refl (fun k => k = p) _).alloc _) (fun _ _ h => h)⟩
set_option linter.unusedSimpArgs false

theorem decoded_any {w : World} {base p m n L D : Nat} {v : Value} {l : List Int} (h : Rd w base p v l m) (hT : TabS w) (hb0 : 0 < base) (hs : OkS n L D) : Calls Tryz.prog 109 #[.pointer (some ⟨p, 0, none⟩), .agg #[.int .i64 (n : Int), .int .i64 (L : Int), .int .i64 (D : Int)]] w (Deco n L D w base p v l m) := by
  by_cases hn : n = 0
  · subst hn; exact decoded0 h hT hb0
  · exact decoded1 h hT hb0 hs hn

/-- What next does. -/
def Nxt (n L D : Nat) (w : World) (base p : Nat) (v : Value) (l : List Int) (m : Nat) (e : Ending) (w' : World) : Prop :=
  ∃ er t k, gtm n L D (num l) l.length m = (er, t, k) ∧ (er = 0 ∨ er = 50 ∨ er = 60) ∧ e = .returned (.tuple #[.int .i64 (t : Int), .int .i64 (er : Int)]) ∧ (er = 0 → Rd w' base p v l (m + k)) ∧ But (fun k => k = p) w w'

set_option maxHeartbeats 4000000 in
theorem next_any {w : World} {base p m n L D : Nat} {v : Value} {l : List Int} (h : Rd w base p v l m) (hT : TabS w) (hb0 : 0 < base) (hs : OkS n L D) : Calls Tryz.prog 106 #[.pointer (some ⟨p, 0, none⟩), .agg #[.int .i64 (n : Int), .int .i64 (L : Int), .int .i64 (D : Int)]] w (Nxt n L D w base p v l m) := by
  have E0 := hide (DS.start h hT hb0 (.int .i64 (n : Int)) (.int .i64 (L : Int)) (.int .i64 (D : Int)))
  have DE := hide (decoded_any E0.out.rd E0.out.t hb0 hs)
  clear h hT hs
  have s0 := E0.out.s.c0
  have s1 := E0.out.s.c1
  have s2 := E0.out.s.c2
  replace hb0 := hide hb0
  unfold Nxt
  go_enter Tryz.func106, Tryz.ntmps106
  go_wp2_with fail
  refine DE.out.mono ?_
  rintro e w2 ⟨er, t, k, hd, her, rfl, hR, b2⟩
  have hg := gtm_dcd hd
  rcases her with rfl | rfl | rfl
  · have E2 := hide (E0.out.get b2 (hR rfl))
    have F := hide (mayFollow_any (n : Int) (L : Int) (D : Int) t w2)
    clear s0 s1 s2 DE hR b2 hd
    have s0 := E2.out.s.c0
    have s1 := E2.out.s.c1
    have s2 := E2.out.s.c2
    simp only [show ((0 : Nat) : Int) = 0 from rfl]
    cases hok : okTI (n : Int) (L : Int) t
    · rw [hok] at F
      have hgg := hide (hg.2.2 rfl hok)
      clear hg
      replace hok := hide hok
      go_wp2_with fail
      refine F.out.mono ?_
      rintro e w3 ⟨rfl, b3⟩
      have b3' := hide (E2.out.below b3).but
      clear F b3 s0 s1 s2
      go_wp2_with fail
      go_ret2
      exact ⟨60, 0, 0, hgg.out, .inr (.inr rfl), rfl, (fun h => by cases h), b3'.out⟩
    · rw [hok] at F
      obtain ⟨ht0, hgg⟩ := hg.2.1 rfl hok
      obtain ⟨t, rfl⟩ := Int.eq_ofNat_of_zero_le ht0
      replace hgg := hide hgg
      clear hg ht0
      replace hok := hide hok
      go_wp2_with fail
      refine F.out.mono ?_
      rintro e w3 ⟨rfl, b3⟩
      have E3 := hide (E2.out.below b3)
      clear F b3 s0 s1 s2
      go_wp2_with fail
      go_ret2
      exact ⟨0, t, k, by simpa using hgg.out, .inl rfl, rfl, (fun _ => E3.out.rd), E3.out.but⟩
  · have hgg := hide (hg.1 (by decide))
    have b2' := hide (E0.out.but.one_trans b2)
    clear DE hg hR hd b2
    simp only [show ((50 : Nat) : Int) = 50 from rfl]
    go_wp2_with fail
    go_ret2
    exact ⟨50, 0, 0, hgg.out, .inr (.inl rfl), rfl, (fun h => by cases h), b2'.out⟩
  · have hgg := hide (hg.1 (by decide))
    have b2' := hide (E0.out.but.one_trans b2)
    clear DE hg hR hd b2
    simp only [show ((60 : Nat) : Int) = 60 from rfl]
    go_wp2_with fail
    go_ret2
    exact ⟨60, 0, 0, hgg.out, .inr (.inr rfl), rfl, (fun h => by cases h), b2'.out⟩

/-- A reader, as a box of three. -/
theorem Oct.box {w : World} {base p n : Nat} {t : TypeId} {v : Value} {l : List Int} (h : Oct w base p t v l n) : Box3 w p v (.int .i64 (n : Int)) (.bool true) := ⟨h.c0, h.c1, h.c2, h.fz 0, h.fz 1, h.fz 2, h.lt⟩
theorem Oct.set3 {w : World} {base p n : Nat} {t : TypeId} {v : Value} {l : List Int} (h : Oct w base p t v l n) (m : Nat) : Oct (((w.setCell ⟨p, 0, none⟩ v).setCell ⟨p, 1, none⟩ (.int .i64 (m : Int))).setCell ⟨p, 2, none⟩ (.bool true)) base p t v l m := by
  have hb := but3 w p v (.int .i64 (m : Int)) (.bool true)
  refine ⟨?_, h.ge, owns_of_block h.own (fun k hk => hb.block k (h.own.lt k hk).2 (fun e => h.ne (by rw [← e]; exact hk))), h.ne⟩
  rw [heap_setCell_same _ p 2 #[v, .int .i64 (m : Int), .bool true] t _ (by
    rw [heap_setCell_same _ p 1 #[v, .int .i64 (n : Int), .bool true] t _ (by
      rw [heap_setCell_same _ p 0 #[v, .int .i64 (n : Int), .bool true] t _ h.heap]; rfl)]; rfl)]
  rfl
/-- A copy of a reader. -/
theorem Rd.copy {w : World} {base p n : Nat} {v : Value} {l : List Int} (h : Rd w base p v l n) : Rd (w.alloc (.cells #[v, .int .i64 (n : Int), .bool true] 135)) base w.heap.size v l n := by
  have hlt := h.lt
  refine ⟨⟨heap_alloc_new w _, by omega, owns_of_block h.1.own (fun k hk => ?_), fun e => ?_⟩, h.2⟩
  · exact Below.heap_alloc w _ k (h.1.own.lt k hk).2
  · have := (h.1.own.lt _ e).2; omega
/-- How things stand within Get. -/
structure GS (w0 w : World) (base p : Nat) (v : Value) (l : List Int) (n g : Nat) (a b c : Value) : Prop where
  rd : Rd w base p v l n
  t : TabS w
  s : Box3 w g a b c
  r : Box3 w (g + 1) (.int .i64 0) (.int .i64 0) (.int .i64 0)
  but : But (fun k => k = p) w0 w
  gp : g ≠ p
  gq : g + 1 ≠ p
  nf : ¬ fp p v (g + 1)
  b0 : 0 < base
theorem GS.get {w0 w w' : World} {base p n n' g : Nat} {v a b c : Value} {l : List Int} (h : GS w0 w base p v l n g a b c) (hb : But (fun k => k = p) w w') (hr : Rd w' base p v l n') : GS w0 w' base p v l n' g a b c :=
  ⟨hr, h.t.but hb (by have := h.rd.lt; have := h.b0; omega), h.s.but hb h.gp, h.r.but hb h.gq, h.but.one_trans hb, h.gp, h.gq, h.nf, h.b0⟩
theorem GS.below {w0 w w' : World} {base p n g : Nat} {v a b c : Value} {l : List Int} (h : GS w0 w base p v l n g a b c) (hb : Below w.heap.size w w') : GS w0 w' base p v l n g a b c :=
  ⟨h.rd.below hb (Nat.le_refl _), h.t.kept hb h.t.pos, h.s.kept hb h.s.lt, h.r.kept hb h.r.lt, h.but.one_trans (but_below hb), h.gp, h.gq, h.nf, h.b0⟩
/-- A block that is none of these turns. -/
theorem GS.other {w0 w w' : World} {base p n g q : Nat} {v a b c : Value} {l : List Int} (h : GS w0 w base p v l n g a b c) (hb : But (fun k => k = q) w w') (hq0 : w0.heap.size ≤ q) (hqg : g + 1 < q) (hqp : ¬ fp p v q) : GS w0 w' base p v l n g a b c :=
  ⟨h.rd.but hb hqp, h.t.but hb (by omega), h.s.but hb (by omega), h.r.but hb (by omega), h.but.trans hb (fun i hi e => by omega), h.gp, h.gq, h.nf, h.b0⟩
theorem GS.start {w : World} {base p n : Nat} {v : Value} {l : List Int} (h : Rd w base p v l n) (hT : TabS w) (hb0 : 0 < base) (a b c : Value) : GS w ((w.alloc (.cells #[a, b, c] 60)).alloc (.cells #[.int .i64 0, .int .i64 0, .int .i64 0] 60)) base p v l n w.heap.size a b c := by
  have B0 : Below w.heap.size w (w.alloc (.cells #[a, b, c] 60)) := (Below.refl _ w).alloc (Nat.le_refl _) _
  have B1 : Below w.heap.size w ((w.alloc (.cells #[a, b, c] 60)).alloc (.cells #[.int .i64 0, .int .i64 0, .int .i64 0] 60)) := B0.alloc B0.size _
  have := h.lt
  exact ⟨h.below B1 (Nat.le_refl _), hT.kept B1 hT.pos, (Box3.new w _ _ _ 60).kept ((Below.refl (w.heap.size + 1) _).alloc (by simp) _) (by omega), Box3.new_at (by simp) _ _ _ 60, but_below B1, by omega, by omega, fun hf => by have := (h.1.fplt _ hf).2; omega, hb0⟩
theorem GS.done {w0 w : World} {base p n g : Nat} {v a b c : Value} {l : List Int} (h : GS w0 w base p v l n g a b c) (hg : w0.heap.size ≤ g) (x y z : Value) :
    Rd (((w.setCell ⟨g + 1, 0, none⟩ x).setCell ⟨g + 1, 1, none⟩ y).setCell ⟨g + 1, 2, none⟩ z) base p v l n ∧ But (fun k => k = p) w0 (((w.setCell ⟨g + 1, 0, none⟩ x).setCell ⟨g + 1, 1, none⟩ y).setCell ⟨g + 1, 2, none⟩ z) :=
  ⟨h.rd.but (but3 w (g + 1) x y z) h.nf, h.but.trans (but3 w (g + 1) x y z) (fun i hi e => by omega)⟩
theorem Rd.set3 {w : World} {base p n m : Nat} {v : Value} {l : List Int} (h : Rd w base p v l n) (hm : m ≤ 8 * l.length) : Rd (((w.setCell ⟨p, 0, none⟩ v).setCell ⟨p, 1, none⟩ (.int .i64 (m : Int))).setCell ⟨p, 2, none⟩ (.bool true)) base p v l m := ⟨h.1.set3 m, h.2.1, h.2.2.1, hm⟩

/-- What Get does. -/
def GetS (n L D : Nat) (w : World) (base p : Nat) (v : Value) (l : List Int) (m : Nat) (e : Ending) (w' : World) : Prop :=
  ∃ er t k, gtm n L D (num l) l.length m = (er, t, k) ∧ (er = 0 ∨ er = 50 ∨ er = 60) ∧ (er = 0 → e = .returned (.tuple #[.agg #[.int .i64 ((n + 1 : Nat) : Int), .int .i64 (t : Int), .int .i64 ((dl n L t : Nat) : Int)], .int .i64 (t : Int), .int .i64 0]) ∧ Rd w' base p v l (m + k)) ∧ (er ≠ 0 → e = .returned (.tuple #[.agg #[.int .i64 0, .int .i64 0, .int .i64 0], .int .i64 0, .int .i64 (er : Int)]) ∧ Rd w' base p v l m) ∧ But (fun k => k = p) w w'

set_option maxHeartbeats 4000000 in
theorem getS {w : World} {base p m n L D : Nat} {v : Value} {l : List Int} (h : Rd w base p v l m) (hT : TabS w) (hb0 : 0 < base) (hs : OkS n L D) : Calls Tryz.prog 98 #[.pointer (some ⟨p, 0, none⟩), .agg #[.int .i64 (n : Int), .int .i64 (L : Int), .int .i64 (D : Int)]] w (GetS n L D w base p v l m) := by
  obtain ⟨va, vc, rfl⟩ := h.1.slice
  have E0 := hide (GS.start h hT hb0 (.int .i64 (n : Int)) (.int .i64 (L : Int)) (.int .i64 (D : Int)))
  have P0 := hide (getR E0.out.rd 0 (ni := 0) (xi := 0) rfl (rd_zero _ _ _) rfl (by decide) (by have := h.2.2.2; omega))
  have hsi := hide (okSI_of hs)
  have hz23 := zero23
  replace hs := hide hs
  replace hb0 := hide hb0
  clear h hT
  unfold GetS
  go_enter Tryz.func98, Tryz.ntmps98
  go_wp2_with fail
  refine P0.out.mono ?_
  rintro e w2 ⟨rfl, R2, b2⟩
  have E2 := hide (E0.out.get b2 R2)
  clear P0 E0 R2 b2
  have M := hide (mayBe_any (n : Int) (L : Int) (D : Int) w2)
  rw [hsi.out] at M
  have s0 := E2.out.s.c0
  have s1 := E2.out.s.c1
  have s2 := E2.out.s.c2
  go_wp2_with fail
  refine M.out.mono ?_
  rintro e w3 ⟨rfl, b3⟩
  have E3 := hide (E2.out.below b3)
  clear M E2 b3 s0 s1 s2
  have E4 := hide (E3.out.below ((Below.refl w3.heap.size w3).alloc (Nat.le_refl _) (.cells #[.slice va l.length vc, .int .i64 (m : Int), .bool true] 135)))
  have R4 : Hid (Rd (w3.alloc (.cells #[.slice va l.length vc, .int .i64 (m : Int), .bool true] 135)) base w3.heap.size (.slice va l.length vc) l m) := E3.out.rd.copy
  have NX := hide (next_any R4.out E4.out.t hb0.out hs.out)
  have hq0 : Hid (w.heap.size + 1 < w3.heap.size) := by have := E3.out.r.lt; show _ < _; omega
  have hqf : Hid (¬ fp p (.slice va l.length vc) w3.heap.size) := fun hf => by have := (E3.out.rd.1.fplt _ hf).2; omega
  have s0 := E4.out.s.c0
  have s1 := E4.out.s.c1
  have s2 := E4.out.s.c2
  obtain ⟨c0, c1, c2, -, -, -, -⟩ := E3.out.rd.1.box
  simp only [Nat.add_zero] at c1
  go_wp2_with fail
  refine NX.out.mono ?_
  rintro e w5 ⟨er, t, k, hg, her, rfl, hR, b5⟩
  have E5 := hide (E4.out.other b5 (by have := hq0.out; omega) hq0.out hqf.out)
  clear NX R4 E4 E3 s0 s1 s2 c0 c1 c2 b5
  rcases her with rfl | rfl | rfl
  · have R5 := hide (hR rfl)
    have hok := hide (gtm_ok hg)
    replace hg := hide hg
    clear hR
    have y0 := R5.out.1.box.c0
    have y1 := R5.out.1.box.c1
    have y2 := R5.out.1.box.c2
    obtain ⟨m2, hm2⟩ : ∃ m2, m + k = m2 := ⟨_, rfl⟩
    rw [hm2] at y1
    have E6 := hide (E5.out.get (but3 w5 p (.slice va l.length vc) (.int .i64 (m2 : Int)) (.bool true)) (E5.out.rd.set3 (by rw [← hm2]; exact hok.out.2.2.1)))
    have hB := hide (behind_any n L D t · hs.out hok.out.1)
    replace hm2 := hide hm2
    simp only [show ((0 : Nat) : Int) = 0 from rfl]
    obtain ⟨r0, r1, r2, r3, r4, r5, r6⟩ := E5.out.rd.1.box
    have r7 := E5.out.rd.1.box.o1
    have r8 := E5.out.rd.1.box.o2
    have s0 := E6.out.s.c0
    have s1 := E6.out.s.c1
    have s2 := E6.out.s.c2
    obtain ⟨q, hq⟩ : ∃ q, dl n L t = q := ⟨_, rfl⟩
    obtain ⟨n1, hn1⟩ : ∃ n1, n + 1 = n1 := ⟨_, rfl⟩
    rw [hn1, hq] at hB
    replace hn1 := hide hn1
    replace hq := hide hq
    go_wp2_with fail
    refine (hB.out _).mono ?_
    rintro e w7 ⟨rfl, b7⟩
    have E7 := hide (E6.out.below b7)
    clear r0 r1 r2 r3 r4 r5 r6 r7 r8 s0 s1 s2 b7 E6 hB y0 y1 y2 R5
    have FIN := hide (E7.out.done (Nat.le_refl _) (.int .i64 (n1 : Int)) (.int .i64 (t : Int)) (.int .i64 (q : Int)))
    have X2 := hide (E7.out.r.set (.int .i64 (n1 : Int)) (.int .i64 (t : Int)) (.int .i64 (q : Int)))
    obtain ⟨r0, r1, r2, r3, r4, r5, r6⟩ := E7.out.r
    have r7 := E7.out.r.o1
    have r8 := E7.out.r.o2
    have o0 := X2.out.c0
    have o1 := X2.out.c1
    have o2 := X2.out.c2
    go_wp2_with fail
    refine bodyPost_ret (v := .tuple #[.agg #[.int .i64 (n1 : Int), .int .i64 (t : Int), .int .i64 (q : Int)], .int .i64 (t : Int), .int .i64 0]) (by simp [results, Tryz.f98, go_sem, o0, o1, o2]) rfl ?_
    exact ⟨0, t, k, hg.out, .inl rfl, (fun _ => ⟨by rw [hn1.out, hq.out], by rw [hm2.out]; exact FIN.out.1⟩), (fun h => absurd rfl h), FIN.out.2⟩
  · replace hg := hide hg
    clear hR
    simp only [show ((50 : Nat) : Int) = 50 from rfl]
    have FIN := hide (E5.out.done (Nat.le_refl _) (.int .i64 0) (.int .i64 0) (.int .i64 0))
    have X2 := hide (E5.out.r.set (.int .i64 0) (.int .i64 0) (.int .i64 0))
    obtain ⟨r0, r1, r2, r3, r4, r5, r6⟩ := E5.out.r
    have r7 := E5.out.r.o1
    have r8 := E5.out.r.o2
    have o0 := X2.out.c0
    have o1 := X2.out.c1
    have o2 := X2.out.c2
    go_wp2_with fail
    refine bodyPost_ret (v := .tuple #[.agg #[.int .i64 0, .int .i64 0, .int .i64 0], .int .i64 0, .int .i64 50]) (by simp [results, Tryz.f98, go_sem, o0, o1, o2]) rfl ?_
    exact ⟨50, t, k, hg.out, .inr (.inl rfl), (fun h => by cases h), (fun _ => ⟨rfl, FIN.out.1⟩), FIN.out.2⟩
  · replace hg := hide hg
    clear hR
    simp only [show ((60 : Nat) : Int) = 60 from rfl]
    have FIN := hide (E5.out.done (Nat.le_refl _) (.int .i64 0) (.int .i64 0) (.int .i64 0))
    have X2 := hide (E5.out.r.set (.int .i64 0) (.int .i64 0) (.int .i64 0))
    obtain ⟨r0, r1, r2, r3, r4, r5, r6⟩ := E5.out.r
    have r7 := E5.out.r.o1
    have r8 := E5.out.r.o2
    have o0 := X2.out.c0
    have o1 := X2.out.c1
    have o2 := X2.out.c2
    go_wp2_with fail
    refine bodyPost_ret (v := .tuple #[.agg #[.int .i64 0, .int .i64 0, .int .i64 0], .int .i64 0, .int .i64 60]) (by simp [results, Tryz.f98, go_sem, o0, o1, o2]) rfl ?_
    exact ⟨60, t, k, hg.out, .inr (.inr rfl), (fun h => by cases h), (fun _ => ⟨rfl, FIN.out.1⟩), FIN.out.2⟩

set_option maxHeartbeats 4000000 in
theorem getS_no {w : World} {base p m : Nat} {v : Value} {l : List Int} (h : Rd w base p v l m) (hT : TabS w) (hb0 : 0 < base) (n L D : Int) (hno : okSI n L D = false) : Calls Tryz.prog 98 #[.pointer (some ⟨p, 0, none⟩), .agg #[.int .i64 n, .int .i64 L, .int .i64 D]] w fun e w' => e = .returned (.tuple #[.agg #[.int .i64 0, .int .i64 0, .int .i64 0], .int .i64 0, .int .i64 60]) ∧ Rd w' base p v l m ∧ But (fun k => k = p) w w' := by
  have E0 := hide (GS.start h hT hb0 (.int .i64 n) (.int .i64 L) (.int .i64 D))
  have P0 := hide (getR E0.out.rd 0 (ni := 0) (xi := 0) rfl (rd_zero _ _ _) rfl (by decide) (by have := h.2.2.2; omega))
  have hz23 := zero23
  replace hb0 := hide hb0
  clear h hT
  go_enter Tryz.func98, Tryz.ntmps98
  go_wp2_with fail
  refine P0.out.mono ?_
  rintro e w2 ⟨rfl, R2, b2⟩
  have E2 := hide (E0.out.get b2 R2)
  clear P0 E0 R2 b2
  have M := hide (mayBe_any n L D w2)
  rw [hno] at M
  clear hno
  have s0 := E2.out.s.c0
  have s1 := E2.out.s.c1
  have s2 := E2.out.s.c2
  go_wp2_with fail
  refine M.out.mono ?_
  rintro e w3 ⟨rfl, b3⟩
  have E3 := hide (E2.out.below b3)
  clear M E2 b3 s0 s1 s2
  have FIN := hide (E3.out.done (Nat.le_refl _) (.int .i64 0) (.int .i64 0) (.int .i64 0))
  have X2 := hide (E3.out.r.set (.int .i64 0) (.int .i64 0) (.int .i64 0))
  obtain ⟨r0, r1, r2, r3, r4, r5, r6⟩ := E3.out.r
  have r7 := E3.out.r.o1
  have r8 := E3.out.r.o2
  have o0 := X2.out.c0
  have o1 := X2.out.c1
  have o2 := X2.out.c2
  go_wp2_with fail
  refine bodyPost_ret (v := .tuple #[.agg #[.int .i64 0, .int .i64 0, .int .i64 0], .int .i64 0, .int .i64 60]) (by simp [results, Tryz.f98, go_sem, o0, o1, o2]) rfl ?_
  exact ⟨rfl, FIN.out.1, FIN.out.2⟩

end Go.Proofs.YtmjjedbdedemcaaGreatDoor
