/-
  Crash: the walk.
-/
import Derived.Test.YtgbijkdfhkkieaaW
namespace Go.Proofs.Ytgbijkdfhkkieaa
open Go.RowKit Go.Maps Go.Shelf
set_option linter.unusedVariables false
set_option linter.unusedSimpArgs false
attribute [local go_sem] Oper.semAt_some

/-- The directory is another map. -/
theorem Dk.swap {w w' : World} {d bf bs b2 : Nat} {m m' : M} {T : Nat → Prop} {V : Nat → Value × Value} (h : Dk w d m T bf bs V) (hb : But (fun x => x = d) w w') (hx : Bx w' d 64 (dcs m' b2 bs)) (own : w.ownsMap Try.prog 9 pe b2 m.n m.sure) (hne : b2 ≠ bs) (e1 : m'.files = m.sure) (e2 : m'.sure = m.sure) (e3 : m'.ids = m.ids) (e4 : m'.ct = m.ct) (e5 : m'.n = m.n) : Dk w' d m' (Tt d b2 bs m.ids V) b2 bs V where
  dk := hx
  mf := by rw [e1, e5]; exact ownsMap_of_block own (hb.block _ own.lt (fun e => map_not own h.dk e))
  ms := by rw [e2, e5]; exact ownsMap_of_block h.ms (hb.block _ h.ms.lt (fun e => map_not h.ms h.dk e))
  ne := hne
  td := .inl rfl
  tf := .inr (.inl rfl)
  ts := .inr (.inr (.inl rfl))
  ti := fun g hg => by
    rw [e3] at hg
    exact ⟨.inr (.inr (.inr (.inl hg))), fun k hk => .inr (.inr (.inr (.inr ⟨g, hg, .inl hk⟩))), fun k hk => .inr (.inr (.inr (.inr ⟨g, hg, .inr hk⟩)))⟩
  fl := fun g hg => by
    rw [e3] at hg
    rw [e4]
    obtain ⟨a, b, c⟩ := h.fl g hg
    exact ⟨a.but hb (h.ndi hg), owns_of_block b (fun k hk => hb.block k (b.lt k hk).2 (h.n1 hg hk).1), owns_of_block c (fun k hk => hb.block k (c.lt k hk).2 (h.n2 hg hk).1)⟩
  byt := by rw [e3, e4]; exact h.byt
  s1 := by rw [e3]; exact h.s1
  s2 := by rw [e3]; exact h.s2
  vf := by rw [e1, e3]; exact h.vs
  vs := by rw [e2, e3]; exact h.vs
  lt := fun x hx => by
    refine Nat.lt_of_lt_of_le ?_ hb.size
    rcases hx with rfl | rfl | rfl | hx | ⟨g, hg, hx | hx⟩
    · exact h.dk.lt
    · exact own.lt
    · exact h.ms.lt
    · exact (h.fl x hx).1.lt
    · exact ((h.fl g hg).2.1.lt x hx).2
    · exact ((h.fl g hg).2.2.lt x hx).2
/-- A crash under way. -/
abbrev mI (m : M) (c : CS) : M := { m with files := m.sure, used := c.U, ct := c.ct }
/-- What holds between the rounds of a crash. -/
structure CrI (w : World) (W : World) (d b2 bs q bd Bs br : Nat) (m : M) (c : CS) (T : Nat → Prop) (V : Nat → Value × Value) : Prop where
  dk : Dk W d (mI m c) (Tt d b2 bs m.ids V) b2 bs V
  pl : Pl W q c.ps (Tt d b2 bs m.ids V)
  bx : Bx W bd 26 #[ptr d]
  n1 : ¬ Tt d b2 bs m.ids V bd
  n2 : ¬ Tt d b2 bs m.ids V Bs
  n3 : ¬ Tt d b2 bs m.ids V br
  lt : Bs < W.heap.size ∧ br < W.heap.size
  but : But T w W
  tt : ∀ x, Tt d b2 bs m.ids V x → T x ∨ w.heap.size ≤ x
theorem CrI.own {w W W' : World} {d b2 bs q bd Bs br B : Nat} {m : M} {c : CS} {T : Nat → Prop} {V : Nat → Value × Value} (h : CrI w W d b2 bs q bd Bs br m c T V) (h2 : b2 < B) (hs : bs < B) (hw : w.heap.size ≤ B) {row : Option Nat} (hg : W.grownBy W' row) (hr : ∀ r, row = some r → B ≤ r ∧ ∃ o : Obj, W.heap[r]? = some o ∧ o.isCells = false) : CrI w W' d b2 bs q bd Bs br m c T V :=
  ⟨h.dk.own h2 hs hg hr, h.pl.own hg (fun r e => (hr r e).2), (hg.block bd h.bx.lt (fun e => by
    obtain ⟨_, o, ho, hn⟩ := hr bd e.symm
    have := ho.symm.trans h.bx
    simp only [Option.some.injEq] at this
    subst this
    cases hn)).trans h.bx, h.n1, h.n2, h.n3, ⟨Nat.lt_of_lt_of_le h.lt.1 hg.size, Nat.lt_of_lt_of_le h.lt.2 hg.size⟩, h.but.grown hg (fun k e hk => by have := (hr k e).1; omega), h.tt⟩
set_option maxHeartbeats 8000000 in
set_option maxRecDepth 100000 in
theorem Crash_in (n : Nat) (h1 : 4 ≤ n) {w : World} {d : Nat} {m : M} {T : Nat → Prop} (h : Disk w d m T) (hm : Sm m) (hG : Gd m.sure) {a : Option Addr} {np cp : Nat} {ps : List Int} (hp : Hi w a np cp ps) (hpT : 0 < np → ∀ k, (Value.slice a np cp).ownBlock = some k → ¬ T k) :
    CallsIn Fence.wide n Try.prog 9 #[ptr d, .slice a np cp] w (Res w d T fun r m' => r = 0 ∧ m' = mcr m ps) := by
  obtain ⟨bf, bs, V, h⟩ := h
  have A := hide (h.alloc (.cells #[ptr d] 26))
  have XA := hide (Bx.new w 26 #[ptr d])
  have bA := hide (but_alloc T w (.cells #[ptr d] 26))
  have hdl := h.dk.lt
  have hIA := hide (hp.but (but_alloc (fun _ => False) w (.cells #[ptr d] 26)) (fun _ _ _ e => e))
  replace h := hide h
  replace hp := hide hp
  replace hpT := hide hpT
  refine callsIn_of_wp_marks Try.func9 rfl trivial ?_ rfl
  simp only [Try.ntmps9, List.size_toArray, List.length_cons, List.length_nil, Nat.reduceAdd, Nat.reduceSub, Array.replicate_succ, Array.replicate_zero, List.push_toArray, List.append_toArray, List.nil_append, List.cons_append]
  gi_wp2
  refine ⟨trivial, fun _ => (by omega), (callsIn_wide.2 (isMade_any A.out)).mono ?_⟩
  rintro e w' ⟨rfl, hw⟩; replace hw := hw.symm; subst hw
  gi_wp2
  have DB := (A.out.alloc (.cells #[.slice a np cp] 68))
  have XB := XA.out.alloc (.cells #[.slice a np cp] 68)
  have bB := bA.out.alloc (.cells #[.slice a np cp] 68)
  have zB : ((w.alloc (.cells #[ptr d] 26)).alloc (.cells #[.slice a np cp] 68)).heap.size = w.heap.size + 2 := by simp
  have PB : Pl ((w.alloc (.cells #[ptr d] 26)).alloc (.cells #[.slice a np cp] 68)) (w.heap.size + 1) ps T := by
    have X := Bx.new (w.alloc (.cells #[ptr d] 26)) 68 #[.slice a np cp]
    rw [show (w.alloc (.cells #[ptr d] 26)).heap.size = w.heap.size + 1 by simp] at X
    exact ⟨a, np, cp, X, hIA.out.but (but_alloc (fun _ => False) _ _) (fun _ _ _ e => e), fun e => by have := h.out.lt _ e; omega, hpT.out⟩
  obtain ⟨wB, hwB⟩ : ∃ wB, ((w.alloc (.cells #[ptr d] 26)).alloc (.cells #[.slice a np cp] 68)) = wB := ⟨_, rfl⟩
  rw [hwB] at DB XB bB zB PB
  rw [hwB]
  obtain ⟨q, hq⟩ : ∃ q, w.heap.size + 1 = q := ⟨_, rfl⟩
  obtain ⟨bd, hbd⟩ : ∃ bd, w.heap.size = bd := ⟨_, rfl⟩
  rw [hq] at PB
  rw [hq, hbd]
  rw [hbd] at XB
  obtain ⟨c0, c1, c2, c3, c4, c5, c6⟩ := DB.cs
  have q0 := XB.cell 0
  simp only [List.getElem?_toArray, List.getElem?_cons_zero] at q0
  have hbdd : bd ≠ d := by omega
  have CP : Hid (∀ wx : World, wx = wB.drew → Calls Try.prog 34 #[.map (some bs)] wx fun e w' => ∃ b2, e = .returned (.map (some b2)) ∧ (w'.ownsMap Try.prog 9 pe b2 m.n m.sure ∧ Below wB.heap.size wB w' ∧ wB.heap.size ≤ b2) ∧ w'.cell? ⟨bd, 0, none⟩ = some (.pointer (some ⟨d, 0, none⟩)) ∧ (w'.cell? ⟨d, 3, none⟩ = some (.map (some bf)) ∧ w'.frozen? ⟨d, 3, none⟩ = false) ∧ w'.cell? ⟨d, 6, none⟩ = some (.int .i64 m.used) ∧ w'.frozen? ⟨d, 6, none⟩ = false) := by
    rintro wx rfl
    refine (copied_any bs m.n m.sure wB.drew DB.ms hm.hn).mono ?_
    rintro e w' ⟨rfl, own, B⟩
    have B' : Below wB.heap.size wB w' := ((Below.refl wB.heap.size wB).drew).trans B
    have X := (DB.below B').dk
    have Y := XB.below B'
    exact ⟨wB.heap.size, rfl, ⟨own, B', Nat.le_refl _⟩, Y.cell 0, ⟨X.cell 3, X.fz 3⟩, X.cell 6, X.fz 6⟩
  replace DB := hide DB
  replace XB := hide XB
  replace bB := hide bB
  replace PB := hide PB
  clear hwB A XA bA hIA
  refine wpIn_wide.2 (reg9_4 wB bd d bs q0 c4 hbdd _ _ _ CP.out _ _ _ _ _ _ _ _ _ _ _ _ _ _ _ _ _ _ _ _ _ _ _ _ _ _ _ _ _ _ _ _ _ _ _ _ _ _ _ _ _ _ _ _ _ _ _ _ _ _ ?_)
  rintro b2 w2 ⟨own2, B2, hb2⟩
  clear c0 c1 c2 c3 c4 c5 c6 q0 CP
  have D2 := DB.out.below B2
  have b3 := (but_setCell w2 d 3 (.map (some b2))).trans (but_setCell (w2.setCell ⟨d, 3, none⟩ (.map (some b2))) d 6 (.int .i64 0)) (fun _ _ e => e)
  have D3 := D2.swap (m' := mI m ⟨m.ct, ps, 0⟩) b3 ((D2.dk.set1 3 (.map (some b2))).set1 6 (.int .i64 0)) own2 (by have := DB.out.ms.lt; omega) rfl rfl rfl rfl rfl
  obtain ⟨w3, hw3⟩ : ∃ w3, (w2.setCell ⟨d, 3, none⟩ (.map (some b2))).setCell ⟨d, 6, none⟩ (.int .i64 0) = w3 := ⟨_, rfl⟩
  rw [hw3] at D3 b3 ⊢
  have tt3 : ∀ x, Tt d b2 bs m.ids V x → T x ∨ w.heap.size ≤ x := fun x hx => by
    rcases hx with rfl | rfl | rfl | hx | ⟨g, hg, hx | hx⟩
    · exact .inl h.out.td
    · exact .inr (by omega)
    · exact .inl h.out.ts
    · exact .inl (h.out.ti x hx).1
    · exact .inl ((h.out.ti g hg).2.1 x hx)
    · exact .inl ((h.out.ti g hg).2.2 x hx)
  have nT : ∀ x, ¬ T x → x < wB.heap.size → w.heap.size ≤ x → ¬ Tt d b2 bs m.ids V x := fun x h1 h2 h3 hx => by
    rcases hx with rfl | rfl | rfl | hx | ⟨g, hg, hx | hx⟩
    · exact h1 h.out.td
    · omega
    · exact h1 h.out.ts
    · exact h1 (h.out.ti x hx).1
    · exact h1 ((h.out.ti g hg).2.1 x hx)
    · exact h1 ((h.out.ti g hg).2.2 x hx)
  have P3 : Pl w3 q ps (Tt d b2 bs m.ids V) := by
    have P2 := PB.out.but (T' := T) (But.of_below B2 T) (fun x hx => .inl hx)
    obtain ⟨ap, npp, cpp, XP, HP, m1, m2⟩ := P2.but (T' := T) (b3.mono (fun k e => by rw [e]; exact h.out.td)) (fun x hx => .inl hx)
    refine ⟨ap, npp, cpp, XP, HP, nT q m1 (by omega) (by omega), fun hp0 k hk e => ?_⟩
    rcases e with rfl | rfl | rfl | e | ⟨g, hg, e | e⟩
    · exact m2 hp0 _ hk h.out.td
    · obtain ⟨bb, off, e1, e2, e3⟩ := HP.cells hp0
      have e5 : bb = k := by rw [e1] at hk; simpa [Value.ownBlock] using hk
      subst e5
      have e6 := e3 0 hp0
      obtain ⟨es, clock, hmp, _⟩ := D3.mf
      unfold World.cell? at e6
      simp only [hmp] at e6
      cases e6
    · exact m2 hp0 _ hk h.out.ts
    · exact m2 hp0 _ hk (h.out.ti k e).1
    · exact m2 hp0 _ hk ((h.out.ti g hg).2.1 k e)
    · exact m2 hp0 _ hk ((h.out.ti g hg).2.2 k e)
  have X3 : Bx w3 bd 26 #[ptr d] := (XB.out.below B2).but b3 hbdd
  have bT3 : But T w w3 := (bB.out.trans (But.of_below B2 T) (fun _ _ e => e)).trans (b3.mono (fun k e => by rw [e]; exact h.out.td)) (fun _ _ e => e)
  have nbd : ¬ Tt d b2 bs m.ids V bd := nT bd (fun e => by have := h.out.lt bd e; omega) (by omega) (by omega)
  obtain ⟨t0, t1, t2, t3, t4, t5, t6⟩ := D3.cs
  have y0 := X3.cell 0
  simp only [List.getElem?_toArray, List.getElem?_cons_zero] at y0
  have NM := hide (names_any w3 b2 m.n m.sure D3.mf hm.hn)
  replace D3 := hide D3
  replace P3 := hide P3
  replace X3 := hide X3
  replace bT3 := hide bT3
  replace tt3 := hide tt3
  replace nbd := hide nbd
  replace hq := hide hq
  replace hbd := hide hbd
  replace zB := hide zB
  replace hb2 := hide hb2
  replace B2 := hide B2
  have hw3s : Hid (w2.heap.size ≤ w3.heap.size) := b3.size
  clear hw3 D2 b3 nT own2 XB bB PB
  gi_wp2
  refine ⟨trivial, fun _ => (by omega), (callsIn_wide.2 NM.out).mono ?_⟩
  rintro e w4 ⟨Bs, br2, rfl, hN, B4, hBs, hbr3, hbr2⟩
  obtain ⟨zs, hzs⟩ := names_are D3.out.mf hG
  have hzl : zs.length ≤ m.n := by
    have := nms_length D3.out.mf
    rw [← hzs] at this
    simpa using this
  have hN2 : Nrow w4 Bs br2 (zs.map (·.1)) := by rw [hzs]; exact hN
  have hBl : Bs < w4.heap.size := hN.1
  have hw3B : wB.heap.size ≤ w3.heap.size := Nat.le_trans B2.out.size hw3s.out
  have hid : Hid (Bs ≠ q ∧ br2 ≠ q ∧ bd ≠ q ∧ b2 < w4.heap.size ∧ bs < w4.heap.size ∧ w.heap.size ≤ w4.heap.size) := by
    have h2 := hq.out
    have h3 := hbd.out
    have h4 := zB.out
    have h5 := D3.out.mf.lt
    have h6 := D3.out.ms.lt
    have h7 := B4.size
    exact ⟨by omega, by omega, by omega, by omega, by omega, by omega⟩
  have ntt : ∀ x, w3.heap.size ≤ x → ¬ Tt d b2 bs m.ids V x := fun x hx e => by have := D3.out.lt x e; omega
  have C0 : CrI w w4 d b2 bs q bd Bs br2 m ⟨m.ct, ps, 0⟩ T V := ⟨D3.out.below B4, P3.out.but (But.of_below B4 _) (fun x hx => .inl hx), X3.out.below B4, nbd.out, ntt Bs hBs, ntt br2 hbr3, ⟨hBl, hbr2⟩, bT3.out.trans (But.of_below B4 T) (fun _ _ e => e), tt3.out⟩
  have hval := values_stops (fun x : Nm m.sure => x.1) (n - 1) (by omega) Bs br2 zs (by have := hm.hn; omega) w4 hN2
  have hgof : Hid (∀ x : Nm m.sure, gof m.sure x.1 ∈ m.ids) := fun x => by
    obtain ⟨g, hg⟩ := x.2.2
    rw [gof_held hg]
    exact h.out.vs _ g hg
  have hbnd : Hid (∀ pre : List (Nm m.sure), pre.length ≤ m.n → (∀ g ∈ m.ids, ((cfo m.sure ⟨m.ct, ps, 0⟩ (pre.map (·.1))).ct g).1.length ≤ 1073741824 ∧ ((cfo m.sure ⟨m.ct, ps, 0⟩ (pre.map (·.1))).ct g).2.length ≤ 1073741824) ∧ 0 ≤ (cfo m.sure ⟨m.ct, ps, 0⟩ (pre.map (·.1))).U ∧ (cfo m.sure ⟨m.ct, ps, 0⟩ (pre.map (·.1))).U ≤ 4503599627370496) := fun pre hpl => by
    have key := cfo_le (D := m.sure) (K := 1073741824) (ids := m.ids) (c0 := ⟨m.ct, ps, 0⟩) hm.hc (Nat.le_refl _) (pre.map (·.1)) (fun s hs => by
      obtain ⟨x, _, rfl⟩ := List.mem_map.1 hs
      exact hgof.out x)
    refine ⟨key.1, key.2.1, ?_⟩
    have h3 := key.2.2
    have h4 : sec 1073741824 = 4194304 := by decide
    rw [h4, List.length_map] at h3
    have h5 := hm.hn
    simp only at h3
    omega
  clear y0 t0 t1 t2 t3 t4 t5 t6 NM hN hN2
  replace C0 := hide C0
  replace hzs := hide hzs
  gi_wp2
  refine wpIn_rangeFunc_ownG rfl (by omega) (gf := 81) (lb := #[.pointer (some ⟨Bs, 0, none⟩)]) rfl trivial (enters_of Try.func81 (by kernel_rfl) rfl)
    hval (fun h k => h.trans k) (fun W l o o' hl ho _ _ => ⟨?_, ?_⟩) (Below.refl _ _) (fun _ => rfl)
    (fun pre W => ∃ V', CrI w W d b2 bs q bd Bs br2 m (cfo m.sure ⟨m.ct, ps, 0⟩ (pre.map (·.1))) T V')
    (fun _ _ _ => False)
    (fun pre W W' row hs hg hr => by
      obtain ⟨V', hC⟩ := hs
      exact ⟨V', hC.own hid.out.2.2.2.1 hid.out.2.2.2.2.1 hid.out.2.2.2.2.2 hg hr⟩)
    (fun _ _ _ _ _ hs _ _ => hs)
    ⟨V, C0.out⟩
    (fun x => { tmps := #[ptr d, .slice a np cp, .pointer (some ⟨bd, 0, none⟩), undef, .int .i64 0, .pointer (some ⟨q, 0, none⟩), encStr x.1, undef, ptr d, .bool true, .bool false, .slice a np cp, .pointer (some ⟨d, 0, none⟩), .pointer (some ⟨d, 0, none⟩), .pointer (some ⟨d, 0, none⟩), .pointer (some ⟨d, 0, none⟩), .pointer (some ⟨d, 4, none⟩), .map (some bs), .map (some b2), .pointer (some ⟨d, 0, none⟩), .pointer (some ⟨d, 3, none⟩), .pointer (some ⟨d, 0, none⟩), .pointer (some ⟨d, 6, none⟩), ptr d, .pointer (some ⟨d, 0, none⟩), .pointer (some ⟨d, 3, none⟩), .map (some b2), .func (.func 81) #[] #[.pointer (some ⟨Bs, 0, none⟩)], encStr x.1, undef, undef, undef, undef, undef, undef, undef, undef, undef, undef, undef, undef, undef, undef, undef, undef, undef, undef, undef, undef, undef], defers := [] }) ?assign ?body ?done ?stop
  case refine_1 => exact (grownBy_putObj' W l o').block Bs (by have := (Array.getElem?_eq_some_iff.1 ho).1; omega) (fun e => by cases e; omega)
  case refine_2 => exact (grownBy_putObj' W l o').block br2 (by have := (Array.getElem?_eq_some_iff.1 ho).1; omega) (fun e => by cases e; omega)
  case assign =>
    intro l x W K hK
    gi_wp2
    exact hK
  case body =>
    rintro l pre x W ⟨V5, hC⟩ hlt
    have hpl : pre.length ≤ m.n := by omega
    obtain ⟨c, hc⟩ : ∃ c, cfo m.sure ⟨m.ct, ps, 0⟩ (pre.map (·.1)) = c := ⟨_, rfl⟩
    have hb := hbnd.out pre hpl
    have eS : Hid (cfo m.sure ⟨m.ct, ps, 0⟩ ((pre ++ [x]).map (·.1)) = cst m.sure c x.1) := by
      show cfo m.sure ⟨m.ct, ps, 0⟩ ((pre ++ [x]).map (·.1)) = cst m.sure c x.1
      rw [List.map_append, List.map_singleton, cfo_snoc, hc]
    rw [hc] at hC hb
    obtain ⟨g, hxg⟩ := x.2.2
    have hgi : g ∈ m.ids := by have := hgof.out x; rwa [gof_held hxg] at this
    obtain ⟨o, ho⟩ : ∃ o, crF (c.ct g).1 (c.ct g).2 c.ps = o := ⟨_, rfl⟩
    have eS2 : Hid (cst m.sure c x.1 = ⟨upd c.ct g (o.1, o.1), o.2, c.U + (sec o.1.length : Int)⟩) := by
      show cst m.sure c x.1 = _
      unfold cst
      rw [gof_held hxg, ho]
    have hol : o.1.length ≤ 1073741824 := by
      rw [← ho, crF_length]
      have h4 := (crSz_le (c.ct g).1 (c.ct g).2 c.ps).2
      have h5 := hb.1 g hgi
      omega
    have hs4 := sec_le hol
    obtain ⟨S, hS⟩ : ∃ S, sec o.1.length = S := ⟨_, rfl⟩
    rw [hS] at hs4 eS2
    have hw : Hid (IntKind.i64.wrap (c.U + (S : Int)) = c.U + (S : Int)) := wrapi _ (by have := hb.2; omega)
    have CR := hide (crash_any hC.dk hgi (now := (c.ct g).1) (sure := (c.ct g).2) rfl (hb.1 g hgi).1 (hb.1 g hgi).2 hC.pl)
    rw [ho] at CR
    have lk := look_some hC.dk.mf (s := ⟨x.1.toArray⟩) (by show x.1.toArray.size ≤ maxLen; simpa using x.2.1) (show m.sure.atKey (key ⟨x.1.toArray⟩) .nil = .held g from hxg)
    obtain ⟨t0, t1, t2, t3, t4, t5, t6⟩ := hC.dk.cs
    have y0 := hC.bx.cell 0
    simp only [List.getElem?_toArray, List.getElem?_cons_zero] at y0
    replace hC := hide hC
    replace hb := hide hb
    replace hc := hide hc
    replace hxg := hide hxg
    replace ho := hide ho
    replace hS := hide hS
    gi_wp2
    refine ⟨trivial, fun _ => (by omega), (CallsIn.inRound l (callsIn_wide.2 CR.out)).mono ?_⟩
    rintro e w6 ⟨rfl, T6, V6, D6, P6, B6, U6⟩
    have hW := hC.out
    have hbd6 : ¬ (Tt d b2 bs m.ids V5 bd ∨ bd = q) := fun e => by rcases e with e | e; exact hW.n1 e; exact hid.out.2.2.1 e
    have hBs6 : ¬ (Tt d b2 bs m.ids V5 Bs ∨ Bs = q) := fun e => by rcases e with e | e; exact hW.n2 e; exact hid.out.1 e
    have hbr6 : ¬ (Tt d b2 bs m.ids V5 br2 ∨ br2 = q) := fun e => by rcases e with e | e; exact hW.n3 e; exact hid.out.2.1 e
    have X6 := hW.bx.but B6 hbd6
    obtain ⟨s0, s1, s2, s3, s4, s5, s6⟩ := D6.cs
    have z0 := X6.cell 0
    simp only [List.getElem?_toArray, List.getElem?_cons_zero] at z0
    have f6 := D6.dk.fz 6
    have FS : Hid (∀ wx : World, wx = w6.drew → Calls Try.prog 37 #[ptr g] wx fun e w' => e = .returned (.int .i64 (S : Int)) ∧ w' = wx) := by
      rintro wx rfl
      have hl : (({ mI m c with ct := upd c.ct g (o.1, o.1) } : M).ct g).1.length = o.1.length := by simp [upd]
      have := fsec_any D6.drew hgi (by rw [hl]; omega)
      rw [hl, hS.out] at this
      exact this
    have D7 := (D6.disk (m' := mI m ⟨upd c.ct g (o.1, o.1), o.2, c.U + (S : Int)⟩) (but_setCell w6 d 6 (.int .i64 (c.U + (S : Int)))) (D6.dk.set1 6 _) rfl rfl rfl rfl rfl).drew
    have td6 := D6.td
    have P7 : Pl (w6.setCell ⟨d, 6, none⟩ (.int .i64 (c.U + (S : Int)))).drew q o.2 T6 := P6.but (((But.refl T6 w6).setCell (p := ⟨d, 6, none⟩) (fun _ => td6) _).drew) (fun x hx => .inl hx)
    have B7 : But (fun x => Tt d b2 bs m.ids V5 x ∨ x = q) W (w6.setCell ⟨d, 6, none⟩ (.int .i64 (c.U + (S : Int)))).drew := (B6.setCell (p := ⟨d, 6, none⟩) (fun _ => .inl hW.dk.td) _).drew
    have X7 : Bx (w6.setCell ⟨d, 6, none⟩ (.int .i64 (c.U + (S : Int)))).drew bd 26 #[ptr d] := hW.bx.but B7 hbd6
    obtain ⟨w7, hw7⟩ : ∃ w7, (w6.setCell ⟨d, 6, none⟩ (.int .i64 (c.U + (S : Int)))).drew = w7 := ⟨_, rfl⟩
    rw [hw7] at D7 P7 B7 X7
    have tt7 : ∀ y, Tt d b2 bs m.ids V6 y → Tt d b2 bs m.ids V5 y ∨ W.heap.size ≤ y := fun y hy => U6 y (D7.tt y hy)
    have C7 : Hid (CrI w w7 d b2 bs q bd Bs br2 m (cst m.sure c x.1) T V6) := by
      rw [eS2.out]
      refine ⟨D7.tight, P7.mono D7.tt, X7, fun e => ?_, fun e => ?_, fun e => ?_, ⟨Nat.lt_of_lt_of_le hW.lt.1 B7.size, Nat.lt_of_lt_of_le hW.lt.2 B7.size⟩, ?_, fun y hy => ?_⟩
      · rcases tt7 bd e with e | e
        · exact hW.n1 e
        · have := hW.bx.lt; omega
      · rcases tt7 Bs e with e | e
        · exact hW.n2 e
        · have := hW.lt.1; omega
      · rcases tt7 br2 e with e | e
        · exact hW.n3 e
        · have := hW.lt.2; omega
      · refine hW.but.trans B7 (fun i hi e => ?_)
        rcases e with e | e
        · rcases hW.tt i e with e | e
          · exact e
          · omega
        · have := hq.out; omega
      · rcases tt7 y hy with e | e
        · exact hW.tt y e
        · exact .inr (Nat.le_trans hW.but.size e)
    have K7 : Hid (KeepsFrom w4.heap.size W w7 ∧ KpB Bs br2 W w7) := by
      refine ⟨⟨B7.size, fun k ob hk hko hno => ?_⟩, B7.block Bs hW.lt.1 hBs6, B7.block br2 hW.lt.2 hbr6⟩
      rw [B7.block k (Array.getElem?_eq_some_iff.1 hko).1 (fun e => ?_)]
      · exact hko
      · rcases e with e | e
        · have h9 := hW.dk.cells e hko hno
          have := hid.out.2.2.2.1
          have := hid.out.2.2.2.2.1
          rcases h9 with h9 | h9 <;> omega
        · exact hW.pl.cells e hko hno
    replace D6 := hide D6
    clear D7 P7 B7 X7 P6 B6 U6 tt7 X6 lk CR t0 t1 t2 t3 t4 t5 t6 y0 hbd6 hBs6 hbr6 hW
    gi_wp2
    refine reg9_9 l (n - 1 - 1) w6 bd d g c.U (S : Int) z0 s6 f6 hw.out FS.out _ _ _ _ _ _ _ _ _ _ _ _ _ _ _ _ _ _ _ _ _ _ _ _ _ _ _ _ _ _ _ _ _ _ _ _ _ _ _ _ _ _ _ _ _ _ _ _ _ ?_
    rintro w8 hw8
    rw [hw7] at hw8
    subst hw8
    exact ⟨K7.out.1, K7.out.2, ⟨V6, by rw [eS.out]; exact C7.out⟩⟩
  case done =>
    rintro D5 ys W hD rfl ⟨V5, hC⟩ hK
    rw [hzs.out] at hC
    have y0 := hC.bx.cell 0
    simp only [List.getElem?_toArray, List.getElem?_cons_zero] at y0
    have MD := hide (mend_any hC.dk)
    have hDd : D5 ≠ d := by
      rintro rfl
      have := hK.symm.trans hC.dk.dk
      cases this
    have hDl := (Array.getElem?_eq_some_iff.1 hK).1
    replace hC := hide hC
    gi_wp2
    refine ⟨trivial, fun _ => (by omega), (callsIn_wide.2 MD.out).mono ?_⟩
    rintro e w8 ⟨rfl, D8, b8⟩
    have hK8 : w8.heap[D5]? = some (.deferred (some [])) := by rw [b8.block D5 hDl hDd]; exact hK
    have D9 : Hid (Dk (w8.putObj D5 (.deferred none)) d (mcr m ps) (Tt d b2 bs m.ids V5) b2 bs V5) := D8.own (B := w4.heap.size) (row := some D5) hid.out.2.2.2.1 hid.out.2.2.2.2.1 (grownBy_putObj' w8 D5 _) (fun r e => by cases e; exact ⟨hD, _, hK8, rfl⟩)
    have b9 : Hid (But T w (w8.putObj D5 (.deferred none))) := (hC.out.but.trans (b8.mono (fun k e => by rw [e]; exact h.out.td)) (fun _ _ e => e)).grown (grownBy_putObj' w8 D5 _) (fun k e hk => by cases e; have := hid.out.2.2.2.2.2; omega)
    clear D8 b8
    gi_wp2
    refine ⟨by simp, .inl ⟨_, _, rfl, run_takeDeferred hK8, ?_⟩⟩
    exact ⟨_, results_tmp rfl _ _ _, ⟨0, mcr m ps, Tt d b2 bs m.ids V5, rfl, ⟨b2, bs, V5, D9.out⟩, ⟨b9.out, hC.out.tt⟩, rfl, rfl⟩⟩
  case stop =>
    rintro D5 c pre W _ _ hh _
    exact hh.elim
theorem crash_disk {w : World} {d : Nat} {m : M} {T : Nat → Prop} (h : Disk w d m T) (hm : Sm m) (hG : Gd m.sure) {a : Option Addr} {np cp : Nat} {ps : List Int} (hp : Hi w a np cp ps) (hpT : 0 < np → ∀ k, (Value.slice a np cp).ownBlock = some k → ¬ T k) :
    Calls Try.prog 9 #[ptr d, .slice a np cp] w (Res w d T fun r m' => r = 0 ∧ m' = mcr m ps) := callsIn_wide.1 (Crash_in 5 (by omega) h hm hG hp hpT)
end Go.Proofs.Ytgbijkdfhkkieaa
