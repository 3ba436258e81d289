/-
  An act, to both disks ('do').
-/
import Derived.Test.YtgbijkdfhkkieaaTC
namespace Go.Proofs.Ytgbijkdfhkkieaa
open Go.RowKit Go.Maps Go.Lib
set_option linter.unusedVariables false
set_option linter.unusedSimpArgs false
/-- An act's parts in memory, apart from both disks. -/
structure AcIn (w : World) (T R : Nat → Prop) (aB : Option Addr) (lB cB : Nat) (aP : Option Addr) (lP cP : Nat) : Prop where
  hb : ∃ l, Has w aB lB cB l
  hp : ∃ l, Hi w aP lP cP l
  nb : 0 < lB → ∀ k, (Value.slice aB lB cB).ownBlock = some k → ¬ T k ∧ ¬ R k
  np : 0 < lP → ∀ k, (Value.slice aP lP cP).ownBlock = some k → ¬ T k ∧ ¬ R k
theorem own_len (a : Option Addr) (n n' c : Nat) : (Value.slice a n c).ownBlock = (Value.slice a n' c).ownBlock := by cases a <;> rfl
abbrev actV (dO n : Int) (sN sT : ByteArray) (aB : Option Addr) (lB cB : Nat) (aP : Option Addr) (lP cP : Nat) : Array Value := #[.int .i64 dO, .int .i64 n, .string sN, .string sT, .slice aB lB cB, .slice aP lP cP]
section
variable {w : World} {y d : Nat} {r : RM} {m : M} {R T : Nat → Prop} {K : Nat}
theorem rcreate_ref (h : Ref w y r R) (hw : Rw2 r K) (hK : K ≤ 100000) (s : ByteArray) : Calls Try.prog 46 #[ptr y, .string s] w (RRes w y R (K + 1)) := by
  obtain ⟨I, vF, vD, vS, h, rfl⟩ := h; exact rcreate_any h hw hK s
theorem rappend_ref (h : Ref w y r R) (hw : Rw2 r K) (hK : K ≤ 100000) (s : ByteArray) {ab : Option Addr} {lb cb : Nat} {B : List Int} (hB : Has w ab lb cb B) (hlb : lb ≤ 4096) : Calls Try.prog 48 #[ptr y, .string s, .slice ab lb cb] w (RRes w y R (K + 1)) := by
  obtain ⟨I, vF, vD, vS, h, rfl⟩ := h; exact rappend_any h hw hK s hB hlb
theorem rwrite_ref (h : Ref w y r R) (hw : Rw2 r K) (hK : K ≤ 100000) (s : ByteArray) (n : Int) {ab : Option Addr} {lb cb : Nat} {B : List Int} (hB : Has w ab lb cb B) (hlb : lb ≤ 4096) : Calls Try.prog 49 #[ptr y, .string s, .int .i64 n, .slice ab lb cb] w (RRes w y R (K + 1)) := by
  obtain ⟨I, vF, vD, vS, h, rfl⟩ := h; exact rwrite_any h hw hK s n hB hlb
theorem rcut_ref (h : Ref w y r R) (hw : Rw2 r K) (hK : K ≤ 100000) (s : ByteArray) (n : Int) : Calls Try.prog 50 #[ptr y, .string s, .int .i64 n] w (RRes w y R (K + 1)) := by
  obtain ⟨I, vF, vD, vS, h, rfl⟩ := h; exact rcut_any h hw hK s n
theorem rsync_ref (h : Ref w y r R) (hw : Rw2 r K) (hK : K ≤ 100000) (s : ByteArray) : Calls Try.prog 51 #[ptr y, .string s] w (RRes w y R (K + 1)) := by
  obtain ⟨I, vF, vD, vS, h, rfl⟩ := h; exact rsync_any h hw hK s
theorem rrename_ref (h : Ref w y r R) (hw : Rw2 r K) (hK : K ≤ 100000) (s t : ByteArray) : Calls Try.prog 52 #[ptr y, .string s, .string t] w (RRes w y R (K + 1)) := by
  obtain ⟨I, vF, vD, vS, h, rfl⟩ := h; exact rrename_any h hw hK s t
theorem rremove_ref (h : Ref w y r R) (hw : Rw2 r K) (hK : K ≤ 100000) (s : ByteArray) : Calls Try.prog 53 #[ptr y, .string s] w (RRes w y R (K + 1)) := by
  obtain ⟨I, vF, vD, vS, h, rfl⟩ := h; exact rremove_any h hw hK s
theorem rsyncdir_ref (h : Ref w y r R) (hw : Rw2 r K) (hK : K ≤ 100000)  : Calls Try.prog 54 #[ptr y] w (RRes w y R (K + 1)) := by
  obtain ⟨I, vF, vD, vS, h, rfl⟩ := h; exact rsyncdir_any h hw hK 
theorem rcrash_ref (h : Ref w y r R) (hw : Rw2 r K) (hK : K ≤ 100000) {ap : Option Addr} {np cp : Nat} {ps : List Int} (hP : Hi w ap np cp ps) (hPR : 0 < np → ∀ k, (Value.slice ap np cp).ownBlock = some k → ¬ R k) : Calls Try.prog 55 #[ptr y, .slice ap np cp] w (RResU w y R (K + 1)) := by
  obtain ⟨I, vF, vD, vS, h, rfl⟩ := h; exact rcrash_any h hw hK hP hPR
/-- A number of the reference's disk is stored. -/
theorem Ref.left (h : Ref w y r R) (v : Int) : w.frozen? ⟨y, 5, none⟩ = false ∧ (∃ u, w.cell? ⟨y, 5, none⟩ = some u) ∧ Ref (w.setCell ⟨y, 5, none⟩ (.int .i64 v)) y { r with lf := v } R ∧ But R w (w.setCell ⟨y, 5, none⟩ (.int .i64 v)) := by
  obtain ⟨I, vF, vD, vS, h, rfl⟩ := h
  have b := but_setCell w y 5 (.int .i64 v)
  exact ⟨h.yb.fz 5, ⟨_, h.yb.cell 5⟩, ⟨I, vF, vD, vS, h.num b (h.yb.set1 5 _) rfl rfl rfl, rfl⟩, b.mono (fun x e => .inl e)⟩
theorem Ref.most (h : Ref w y r R) (v : Int) : w.frozen? ⟨y, 0, none⟩ = false ∧ (∃ u, w.cell? ⟨y, 0, none⟩ = some u) ∧ Ref (w.setCell ⟨y, 0, none⟩ (.int .i64 v)) y { r with mx := v } R ∧ But R w (w.setCell ⟨y, 0, none⟩ (.int .i64 v)) := by
  obtain ⟨I, vF, vD, vS, h, rfl⟩ := h
  have b := but_setCell w y 0 (.int .i64 v)
  exact ⟨h.yb.fz 0, ⟨_, h.yb.cell 0⟩, ⟨I, vF, vD, vS, h.num b (h.yb.set1 0 _) rfl rfl rfl, rfl⟩, b.mono (fun x e => .inl e)⟩
theorem fuse_disk (h : Disk w d m T) (n : Int) : Calls Try.prog 28 #[ptr d, .int .i64 n] w (Res w d T fun r m' => r = 0 ∧ m' = { m with left := n }) := by
  obtain ⟨bf, bs, V, h⟩ := h
  refine (fuse_any h n).mono ?_
  rintro e w' ⟨rfl, D, b⟩
  exact ⟨0, _, T, rfl, ⟨bf, bs, V, D⟩, up_same (h.toT b), rfl, rfl⟩
theorem room_disk (h : Disk w d m T) (n : Int) : Calls Try.prog 10 #[ptr d, .int .i64 n] w (Res w d T fun r m' => r = (if 1 ≤ n ∧ n ≤ 65536 then 0 else 2) ∧ m' = (if 1 ≤ n ∧ n ≤ 65536 then { m with room := n } else m)) := by
  obtain ⟨bf, bs, V, h⟩ := h
  refine (room_any h n).mono ?_
  rintro e w' ⟨rfl, D, b⟩
  exact ⟨_, _, T, rfl, ⟨bf, bs, V, D⟩, up_same (h.toT b), rfl, rfl⟩
theorem cell_but {w w' : World} {S : Nat → Prop} (hb : But S w w') {q i : Nat} {v : Value} (h : w.cell? ⟨q, i, none⟩ = some v) (hS : ¬ S q) : w'.cell? ⟨q, i, none⟩ = some v := by
  have hl : q < w.heap.size := World.block_lt_of_cell? w _ h
  rw [← h]
  unfold World.cell?
  simp only [hb.block q hl hS]
end
set_option maxHeartbeats 16000000 in
set_option maxRecDepth 100000 in
theorem do_any {w : World} {d y k : Nat} {m : M} {r : RM} {T R : Nat → Prop} (h : St w d y m r k T R) (hk : k ≤ 1000) (dO n : Int) (hdO : -9223372036854775808 ≤ dO ∧ dO ≤ 9223372036854775807) (hn : -9223372036854775808 ≤ n ∧ n ≤ 9223372036854775807) (sN sT : ByteArray) {aB : Option Addr} {lB cB : Nat} {aP : Option Addr} {lP cP : Nat} (hA : AcIn w T R aB lB cB aP lP cP) :
    Calls Try.prog 18 #[ptr d, ptr y, .agg (actV dO n sN sT aB lB cB aP lP cP)] w fun e w' => ∃ b, e = .returned (.bool b) ∧ Fin w d y T R k (nam sN) (nam sT) m w' := by
  obtain ⟨q, hq⟩ : ∃ q, w.heap.size = q := ⟨_, rfl⟩
  obtain ⟨wb, hwb⟩ : ∃ x, w.alloc (.cells (actV dO n sN sT aB lB cB aP lP cP) 36) = x := ⟨_, rfl⟩
  have Bb : Below w.heap.size w wb := by rw [← hwb]; exact (Below.refl _ w).alloc (Nat.le_refl _) _
  have Xb : Bx wb q 36 (actV dO n sN sT aB lB cB aP lP cP) := by rw [← hwb, ← hq]; exact Bx.new w 36 _
  have k0 : wb.cell? ⟨q, 0, none⟩ = some (.int .i64 dO) := Xb.cell 0
  have k1 : wb.cell? ⟨q, 1, none⟩ = some (.int .i64 n) := Xb.cell 1
  have k2 : wb.cell? ⟨q, 2, none⟩ = some (.string sN) := Xb.cell 2
  have k3 : wb.cell? ⟨q, 3, none⟩ = some (.string sT) := Xb.cell 3
  have k4 : wb.cell? ⟨q, 4, none⟩ = some (.slice aB lB cB) := Xb.cell 4
  have k5 : wb.cell? ⟨q, 5, none⟩ = some (.slice aP lP cP) := Xb.cell 5
  obtain ⟨mb, hmb⟩ : ∃ mb, min lB 1500 = mb := ⟨_, rfl⟩
  have x1 : (if (lB : Int) < 1500 then (lB : Int) else 1500) = (mb : Int) := by rw [← hmb]; split <;> omega
  have x2 : (if (1500 : Int) < (lB : Int) then 1500 else (lB : Int)) = (mb : Int) := by rw [← hmb]; split <;> omega
  have x3 : min (lB : Int) 1500 = (mb : Int) := by rw [← hmb]; omega
  obtain ⟨mp, hmp⟩ : ∃ mp, min lP 40 = mp := ⟨_, rfl⟩
  have y1 : (if (lP : Int) < 40 then (lP : Int) else 40) = (mp : Int) := by rw [← hmp]; split <;> omega
  have y2 : (if (40 : Int) < (lP : Int) then 40 else (lP : Int)) = (mp : Int) := by rw [← hmp]; split <;> omega
  have y3 : min (lP : Int) 40 = (mp : Int) := by rw [← hmp]; omega
  have hmb1 : mb ≤ 1500 := by omega
  have hmp1 : mp ≤ 40 := by omega
  obtain ⟨lb0, HB0⟩ := hA.hb
  obtain ⟨lp0, HP0⟩ := hA.hp
  have rb := fun wx : World => run_h wx aB lB cB mb (Nat.le_trans (by omega) HB0.le)
  have rp := fun wx : World => run_h24 wx aP lP cP mp (Nat.le_trans (by omega) HP0.le)
  have HB := hide ((HB0.front mb (by omega)).kept Bb (Nat.le_refl _))
  have HP := hide (Hi.kept (HP0.front mp (by omega)) Bb (Nat.le_refl _))
  have nB : Hid (0 < mb → ∀ k, (Value.slice aB mb cB).ownBlock = some k → ¬ T k ∧ ¬ R k) := fun hp k hk => hA.nb (by omega) k (by rw [own_len aB lB mb]; exact hk)
  have nP : Hid (0 < mp → ∀ k, (Value.slice aP mp cP).ownBlock = some k → ¬ T k ∧ ¬ R k) := fun hp k hk => hA.np (by omega) k (by rw [own_len aP lP mp]; exact hk)
  have S0 := hide (h.below Bb)
  generalize hlb : lb0.take mb = lb at HB
  generalize hlp : lp0.take mp = lp at HP
  have hltR : Hid (∀ x, R x → x < w.heap.size) := fun x hx => h.rf.lt hx
  have hltT : Hid (∀ x, T x → x < w.heap.size) := fun x hx => h.dk.lt x hx
  have AM := hide (among_any dO 12 hdO (by omega) (by omega))
  have hj := amg_lt dO 12 (by omega)
  generalize amg dO 12 = j at AM hj
  have PN := hide (name_any sN)
  have PT := hide (name_any sT)
  generalize nam sN = s at PN ⊢
  generalize nam sT = t at PT ⊢
  replace AM : Hid (∀ w : World, Calls Try.prog 26 #[.int .i64 dO, .int .i64 12] w fun e w' => e = .returned (.int .i64 (j : Int)) ∧ w' = w) := AM
  clear hmb hmp hlb hlp HB0 HP0 hA h Xb
  replace Bb := hide Bb
  show Calls Try.prog 18 #[.pointer (some ⟨d, 0, none⟩), .pointer (some ⟨y, 0, none⟩), .agg (actV dO n sN sT aB lB cB aP lP cP)] w _
  go_enter Try.func18, Try.ntmps18
  go_wp2_with fail
  go_quiet (first | (go_at_call 16; exact Calls.quiet_of_same (PN.out _)) | (go_at_call 16; exact Calls.quiet_of_same (PT.out _)))
  go_wp2_with fail
  obtain ⟨w0, hw0⟩ : ∃ x, wb.drewN nq = x := ⟨_, rfl⟩
  have Bn : Below wb.heap.size wb w0 := by rw [← hw0]; exact belowN (Below.refl _ wb) nq
  have B0 : Hid (Below w.heap.size w w0) := Bb.out.trans (Bn.mono Bb.out.size)
  have S1 := hide (S0.out.below Bn)
  have HB1 := hide (HB.out.kept Bn (Nat.le_refl _))
  have HP1 := hide (Hi.kept HP.out Bn (Nat.le_refl _))
  have hqb : q < wb.heap.size := World.block_lt_of_cell? wb _ k1
  have k1' : w0.cell? ⟨q, 1, none⟩ = some (.int .i64 n) := (Bn.cell (p := ⟨q, 1, none⟩) hqb).trans k1
  have hqR : Hid (¬ R q ∧ ¬ T q) := by
    have h2 : ∀ x, R x → x < w.heap.size := fun x hx => hltR.out x hx
    have h3 : ∀ x, T x → x < w.heap.size := fun x hx => hltT.out x hx
    exact ⟨fun e => by have := h2 q e; omega, fun e => by have := h3 q e; omega⟩
  rw [hw0]
  clear hw0 S0 HB HP Bn k0 k1 k2 k3 k4 k5 rb rp PN PT x1 x2 x3 y1 y2 y3 hqb hwb Bb hltR hltT
  clear nq
  refine (AM.out _).mono ?_
  rintro e w' ⟨rfl, hw'⟩; replace hw' := hw'.symm; subst hw'
  clear AM
  have hsm := hide (S1.out.ok.sm (by omega))
  have hkb : k ≤ 100000 := by omega
  obtain ⟨z, hz⟩ : ∃ z : Int, (j : Int) = z := ⟨_, rfl⟩
  rw [hz]
  have hz2 : z = 0 ∨ z = 1 ∨ z = 2 ∨ z = 3 ∨ z = 4 ∨ z = 5 ∨ z = 6 ∨ z = 7 ∨ z = 8 ∨ z = 9 ∨ z = 10 ∨ z = 11 := by omega
  clear hz hj
  rcases hz2 with rfl | rfl | rfl | rfl | rfl | rfl | rfl | rfl | rfl | rfl | rfl | rfl
  · go_wp2_with fail
    refine (create_any S1.out.dk hsm.out s).mono ?_
    rintro e w1 ⟨q1, m1, T1, rfl, D1, U1, hC⟩
    have TU : Hid (Tu s t m m1) := tu_cr hC
    have F1 := hide (S1.out.ref D1 U1)
    replace D1 := hide D1
    replace U1 := hide U1
    clear hC
    go_wp2_with fail
    refine (rcreate_ref F1.out S1.out.rw hkb s).mono ?_
    rintro e w2 ⟨q2, r2, R2, rfl, F2, W2, B2, O2⟩
    have FN : Hid (Fin w d y T R k s t m w2) := (S1.out.two D1.out U1.out TU.out F2 W2 B2 O2).below B0.out
    clear F2 W2 B2 O2
    go_wp2_with fail
    go_ret
    exact ⟨_, rfl, FN.out⟩
  · go_wp2_with fail
    refine (bytes_any w0 aB mb cB lb HB1.out (by omega)).mono ?_
    rintro e wx ⟨ax, nx, cx, rfl, Hx, Bx1, Ox⟩
    have hnx : nx = mb := by have := Hx.hlen; have := HB1.out.hlen; omega
    subst hnx
    have Sx := S1.out.below Bx1
    have AP := hide (append_any Sx.dk hsm.out s Hx (by omega) (fun _ kk hkk ht => by have := (Ox.lt kk hkk).1; have := S1.out.dk.lt kk ht; omega))
    replace Bx1 := hide Bx1
    clear Hx Ox Sx
    go_wp2_with fail
    refine AP.out.mono ?_
    rintro e w1 ⟨q1, m1, T1, rfl, D1, U1', hC⟩
    have U1 : Up w0 T w1 T1 := (up_below Bx1.out).trans U1'
    have TU : Hid (Tu s t m m1) := S1.out.ok.app (by have := HB1.out.hlen; omega) hC
    have F1 := hide (S1.out.ref D1 U1)
    have HB2 := hide (HB1.out.but2 U1.but (fun hp kk hkk => (nB.out hp kk hkk).1))
    replace D1 := hide D1
    replace U1 := hide U1
    clear hC U1' AP
    go_wp2_with fail
    refine (rappend_ref F1.out S1.out.rw hkb s HB2.out (by omega)).mono ?_
    rintro e w2 ⟨q2, r2, R2, rfl, F2, W2, B2, O2⟩
    have FN : Hid (Fin w d y T R k s t m w2) := (S1.out.two D1.out U1.out TU.out F2 W2 B2 O2).below B0.out
    clear F2 W2 B2 O2
    go_wp2_with fail
    go_ret
    exact ⟨_, rfl, FN.out⟩
  · go_wp2_with fail
    refine (bytes_any w0 aB mb cB lb HB1.out (by omega)).mono ?_
    rintro e wx ⟨ax, nx, cx, rfl, Hx, Bx1, Ox⟩
    have hnx : nx = mb := by have := Hx.hlen; have := HB1.out.hlen; omega
    subst hnx
    have Sx := S1.out.below Bx1
    have AP := hide (append_any Sx.dk hsm.out s Hx (by omega) (fun _ kk hkk ht => by have := (Ox.lt kk hkk).1; have := S1.out.dk.lt kk ht; omega))
    replace Bx1 := hide Bx1
    clear Hx Ox Sx
    go_wp2_with fail
    refine AP.out.mono ?_
    rintro e w1 ⟨q1, m1, T1, rfl, D1, U1', hC⟩
    have U1 : Up w0 T w1 T1 := (up_below Bx1.out).trans U1'
    have TU : Hid (Tu s t m m1) := S1.out.ok.app (by have := HB1.out.hlen; omega) hC
    have F1 := hide (S1.out.ref D1 U1)
    have HB2 := hide (HB1.out.but2 U1.but (fun hp kk hkk => (nB.out hp kk hkk).1))
    replace D1 := hide D1
    replace U1 := hide U1
    clear hC U1' AP
    go_wp2_with fail
    refine (rappend_ref F1.out S1.out.rw hkb s HB2.out (by omega)).mono ?_
    rintro e w2 ⟨q2, r2, R2, rfl, F2, W2, B2, O2⟩
    have FN : Hid (Fin w d y T R k s t m w2) := (S1.out.two D1.out U1.out TU.out F2 W2 B2 O2).below B0.out
    clear F2 W2 B2 O2
    go_wp2_with fail
    go_ret
    exact ⟨_, rfl, FN.out⟩
  · go_wp2_with fail
    refine reg18_10 w0 d y q s n aB mb cB k1' (fun a1 n1 c1 wx => Has wx a1 n1 c1 lb ∧ n1 ≤ 1500 ∧ Below w0.heap.size w0 wx ∧ ∀ kk, (Value.slice a1 n1 c1).ownBlock = some kk → w0.heap.size ≤ kk) (fun q1 w1 => ∃ m1 T1, Disk w1 d m1 T1 ∧ Up w0 T w1 T1 ∧ Tu s t m m1) (fun w2 => Fin w d y T R k s t m w2) (fun wx hx => ?_) (fun a1 n1 c1 wx hx => ?_) (fun r1 wx hx => ?_) _ _ _ _ _ _ _ _ _ _ _ _ _ _ _ _ _ _ _ _ _ _ _ _ _ _ _ _ _ _ _ _ _ _ _ _ _ _ _ _ _ _ _ _ _ _ _ _ _ _ _ _ _ _ _ _ _ _ _ _ _ _ _ _ _ _ _ _ _ _ _ _ _ _ _ _ _ _ _ _ _ _ _ _ _ _ _ _ _ _ _ _ _ _ _ _ _ _ _ _ _ _ _ _ _ _ _ _ _ _ _ _ _ _ _ _ _ _ _ _ _ _ _ _ _ _ _ _ _ _ _ _ _ _ _ _ _ _ _ _ _ _ _ _ _ _ _ _ _ _ _ _ _ _ _ _ _ _ _ _ ?_
    · subst hx
      have Bd : Below w0.heap.size w0 w0.drew := (Below.refl _ w0).drew
      refine (bytes_any w0.drew aB mb cB lb (HB1.out.kept Bd (Nat.le_refl _)) (by omega)).mono ?_
      rintro e wx ⟨ax, nx, cx, rfl, Hx, Bx1, Ox⟩
      have hnx : nx = mb := by have := Hx.hlen; have := HB1.out.hlen; omega
      have Bx2 : Below w0.heap.size w0 wx := Bd.trans Bx1
      exact ⟨ax, nx, cx, rfl, ⟨Hx, by omega, Bx2, fun kk hkk => (Ox.lt kk hkk).1⟩, cell_but (But.of_below Bx2 (fun _ => False)) k1' (fun f => f)⟩
    · obtain ⟨Hx, hn1, Bx1, Ox⟩ := hx
      have Sx := S1.out.below Bx1
      refine (write_any Sx.dk hsm.out s n Hx (by omega) (fun _ kk hkk ht => by have := Ox kk hkk; have := S1.out.dk.lt kk ht; omega)).mono ?_
      rintro e w1 ⟨q1, m1, T1, rfl, D1, U1', hC⟩
      have U1 : Up w0 T w1 T1 := (up_below Bx1).trans U1'
      exact ⟨q1, rfl, ⟨m1, T1, D1, U1, S1.out.ok.wrt (by have := HB1.out.hlen; omega) hC⟩, cell_but U1.but k1' hqR.out.2⟩
    · obtain ⟨m1, T1, D1, U1, TU⟩ := hx
      have F1 := S1.out.ref D1 U1
      refine (rwrite_ref F1 S1.out.rw hkb s n (HB1.out.but2 U1.but (fun hp kk hkk => (nB.out hp kk hkk).1)) (by omega)).mono ?_
      rintro e w2 ⟨q2, r2, R2, rfl, F2, W2, B2, O2⟩
      exact ⟨q2, rfl, (S1.out.two D1 U1 TU F2 W2 B2 O2).below B0.out⟩
    rintro r1 r2 a1 n1 c1 w2 hF
    replace hF := hide hF
    go_wp2_with fail
    go_ret
    exact ⟨_, rfl, hF.out⟩
  · go_wp2_with fail
    refine reg18_12 w0 d y q s n k1' (fun q1 w1 => ∃ m1 T1, Disk w1 d m1 T1 ∧ Up w0 T w1 T1 ∧ Tu s t m m1) (fun w2 => Fin w d y T R k s t m w2) (fun wx hx => ?_) (fun r1 wx hx => ?_) _ _ _ _ _ _ _ _ _ _ _ _ _ _ _ _ _ _ _ _ _ _ _ _ _ _ _ _ _ _ _ _ _ _ _ _ _ _ _ _ _ _ _ _ _ _ _ _ _ _ _ _ _ _ _ _ _ _ _ _ _ _ _ _ _ _ _ _ _ _ _ _ _ _ _ _ _ _ _ _ _ _ _ _ _ _ _ _ _ _ _ _ _ _ _ _ _ _ _ _ _ _ _ _ _ _ _ _ _ _ _ _ _ _ _ _ _ _ _ _ _ _ _ _ _ _ _ _ _ _ _ _ _ _ _ _ _ _ _ _ _ _ _ _ _ _ _ _ _ _ _ _ _ _ _ _ _ _ _ _ _ ?_
    · subst hx
      have Bd : Below w0.heap.size w0 w0.drew := (Below.refl _ w0).drew
      refine (cut_any (S1.out.below Bd).dk hsm.out s n).mono ?_
      rintro e w1 ⟨q1, m1, T1, rfl, D1, U1', hC⟩
      have U1 : Up w0 T w1 T1 := (up_below Bd).trans U1'
      exact ⟨q1, rfl, ⟨m1, T1, D1, U1, S1.out.ok.cut hC⟩, cell_but U1.but k1' hqR.out.2⟩
    · obtain ⟨m1, T1, D1, U1, TU⟩ := hx
      have F1 := S1.out.ref D1 U1
      refine (rcut_ref F1 S1.out.rw hkb s n).mono ?_
      rintro e w2 ⟨q2, r2, R2, rfl, F2, W2, B2, O2⟩
      exact ⟨q2, rfl, (S1.out.two D1 U1 TU F2 W2 B2 O2).below B0.out⟩
    rintro r1 r2 w2 hF
    replace hF := hide hF
    go_wp2_with fail
    go_ret
    exact ⟨_, rfl, hF.out⟩
  · go_wp2_with fail
    refine (sync_any S1.out.dk hsm.out s).mono ?_
    rintro e w1 ⟨q1, m1, T1, rfl, D1, U1, hC⟩
    have TU : Hid (Tu s t m m1) := tu_syn hC
    have F1 := hide (S1.out.ref D1 U1)
    replace D1 := hide D1
    replace U1 := hide U1
    clear hC
    go_wp2_with fail
    refine (rsync_ref F1.out S1.out.rw hkb s).mono ?_
    rintro e w2 ⟨q2, r2, R2, rfl, F2, W2, B2, O2⟩
    have FN : Hid (Fin w d y T R k s t m w2) := (S1.out.two D1.out U1.out TU.out F2 W2 B2 O2).below B0.out
    clear F2 W2 B2 O2
    go_wp2_with fail
    go_ret
    exact ⟨_, rfl, FN.out⟩
  · go_wp2_with fail
    refine (rename_any S1.out.dk hsm.out s t).mono ?_
    rintro e w1 ⟨q1, m1, T1, rfl, D1, U1, hC⟩
    have TU : Hid (Tu s t m m1) := tu_rn hC
    have F1 := hide (S1.out.ref D1 U1)
    replace D1 := hide D1
    replace U1 := hide U1
    clear hC
    go_wp2_with fail
    refine (rrename_ref F1.out S1.out.rw hkb s t).mono ?_
    rintro e w2 ⟨q2, r2, R2, rfl, F2, W2, B2, O2⟩
    have FN : Hid (Fin w d y T R k s t m w2) := (S1.out.two D1.out U1.out TU.out F2 W2 B2 O2).below B0.out
    clear F2 W2 B2 O2
    go_wp2_with fail
    go_ret
    exact ⟨_, rfl, FN.out⟩
  · go_wp2_with fail
    refine (remove_any S1.out.dk hsm.out s).mono ?_
    rintro e w1 ⟨q1, m1, T1, rfl, D1, U1, hC⟩
    have TU : Hid (Tu s t m m1) := tu_rmv hC
    have F1 := hide (S1.out.ref D1 U1)
    replace D1 := hide D1
    replace U1 := hide U1
    clear hC
    go_wp2_with fail
    refine (rremove_ref F1.out S1.out.rw hkb s).mono ?_
    rintro e w2 ⟨q2, r2, R2, rfl, F2, W2, B2, O2⟩
    have FN : Hid (Fin w d y T R k s t m w2) := (S1.out.two D1.out U1.out TU.out F2 W2 B2 O2).below B0.out
    clear F2 W2 B2 O2
    go_wp2_with fail
    go_ret
    exact ⟨_, rfl, FN.out⟩
  · go_wp2_with fail
    refine (syncDir_any S1.out.dk hsm.out).mono ?_
    rintro e w1 ⟨q1, m1, T1, rfl, D1, U1, hC⟩
    have TU : Hid (Tu s t m m1) := tu_sdr hC
    have F1 := hide (S1.out.ref D1 U1)
    replace D1 := hide D1
    replace U1 := hide U1
    clear hC
    go_wp2_with fail
    refine (rsyncdir_ref F1.out S1.out.rw hkb).mono ?_
    rintro e w2 ⟨q2, r2, R2, rfl, F2, W2, B2, O2⟩
    have FN : Hid (Fin w d y T R k s t m w2) := (S1.out.two D1.out U1.out TU.out F2 W2 B2 O2).below B0.out
    clear F2 W2 B2 O2
    go_wp2_with fail
    go_ret
    exact ⟨_, rfl, FN.out⟩
  · obtain ⟨mx, hmx⟩ : ∃ mx : Int, max n (-1) = mx := ⟨_, rfl⟩
    have z1 : (if n < -1 then (-1) else n) = mx := by rw [← hmx]; split <;> omega
    have z2 : (if (-1) < n then n else (-1)) = mx := by rw [← hmx]; split <;> omega
    have hmb2 : mx ≤ 9223372036854775807 := by omega
    obtain ⟨f5, ⟨u5, c5⟩, F1, B1⟩ := S1.out.rf.left mx
    have W1 : Hid (Rw2 { r with lf := mx } (k + 1)) := by
      have W := S1.out.rw.mono (Nat.le_succ k)
      exact ⟨W.f, W.d, W.s, W.n, hmb2⟩
    have D1 := hide (S1.out.dsk B1)
    have k2 := cell_but B1 k1' hqR.out.1
    replace F1 := hide F1
    replace B1 := hide B1
    go_wp2_with fail
    obtain ⟨w1, hw1⟩ : ∃ x, w0.setCell ⟨y, 5, none⟩ (.int .i64 mx) = x := ⟨_, rfl⟩
    rw [hw1] at F1 B1 D1 k2
    try simp only [hw1]
    clear hw1 f5 c5 z1 z2
    try go_wp2_with fail
    refine (fuse_disk D1.out n).mono ?_
    rintro e w2 ⟨q2, m2, T2, rfl, D2, U2, hq2, hm2⟩
    have FN : Hid (Fin w d y T R k s t m w2) := (S1.out.two' F1.out W1.out B1.out (fun x hx => .inl hx) D2 U2 (by rw [hm2]; exact .fus n hn.2)).below B0.out
    clear D2 U2 hm2
    subst hq2
    go_wp2_with fail
    go_ret
    exact ⟨_, rfl, FN.out⟩
  · go_wp2_with fail
    refine (rcrash_ref S1.out.rf S1.out.rw hkb HP1.out (fun hp kk hkk => (nP.out hp kk hkk).2)).mono ?_
    rintro e w1 ⟨r1, R1, rfl, F1, W1, B1, O1⟩
    have D1 := S1.out.dsk B1
    have HPx := HP1.out.but B1 (fun hp kk hkk => (nP.out hp kk hkk).2)
    have IN := hide (ints_any w1 aP mp cP lp HPx (by omega))
    replace F1 := hide F1
    replace W1 := hide W1
    replace B1 := hide B1
    replace O1 := hide O1
    replace D1 := hide D1
    clear HPx
    go_wp2_with fail
    refine IN.out.mono ?_
    rintro e wx ⟨a2, n2, c2, rfl, H2, Bx1, O2⟩
    have CR := hide (crash_disk (D1.out.below Bx1) hsm.out S1.out.ok.gs H2 (fun _ kk hkk ht => by have := O2 kk hkk; have := D1.out.lt kk ht; omega))
    replace Bx1 := hide Bx1
    clear IN H2 O2
    go_wp2_with fail
    refine CR.out.mono ?_
    rintro e w2 ⟨q2, m2, T2, rfl, D2, U2, hq2, hm2⟩
    have FN : Hid (Fin w d y T R k s t m w2) := (S1.out.two' F1.out W1.out B1.out O1.out D2 ((up_below Bx1.out).trans U2) (by rw [hm2]; exact .crs lp)).below B0.out
    clear D2 U2 hm2
    subst hq2
    go_wp2_with fail
    go_ret
    exact ⟨_, rfl, FN.out⟩
  · by_cases hr : 1 ≤ n ∧ n ≤ 65536
    · have i1 : 1 ≤ n := hr.1
      have i2 : n ≤ 65536 := hr.2
      obtain ⟨f5, ⟨u5, c5⟩, F1, B1⟩ := S1.out.rf.most n
      have W1 : Hid (Rw2 { r with mx := n } (k + 1)) := by
        have W := S1.out.rw.mono (Nat.le_succ k)
        exact ⟨W.f, W.d, W.s, W.n, W.l⟩
      have D1 := hide (S1.out.dsk B1)
      have k2 := cell_but B1 k1' hqR.out.1
      replace F1 := hide F1
      replace B1 := hide B1
      replace hr := hide hr
      go_wp2_with fail
      obtain ⟨w1, hw1⟩ : ∃ x, w0.setCell ⟨y, 0, none⟩ (.int .i64 n) = x := ⟨_, rfl⟩
      rw [hw1] at F1 B1 D1 k2
      try simp only [hw1]
      clear hw1 f5 c5
      try go_wp2_with fail
      refine (room_disk D1.out n).mono ?_
      rintro e w2 ⟨q2, m2, T2, rfl, D2, U2, hq2, hm2⟩
      have FN : Hid (Fin w d y T R k s t m w2) := (S1.out.two' F1.out W1.out B1.out (fun x hx => .inl hx) D2 U2 (by rw [hm2, if_pos hr.out]; exact .rom n)).below B0.out
      clear D2 U2 hm2 hq2
      go_wp2_with fail
      go_ret
      exact ⟨_, rfl, FN.out⟩
    · by_cases i1 : 1 ≤ n
      · have i2 : ¬ (n ≤ 65536) := fun e => hr ⟨i1, e⟩
        replace hr := hide hr
        go_wp2_with fail
        refine (room_disk S1.out.dk n).mono ?_
        rintro e w2 ⟨q2, m2, T2, rfl, D2, U2, hq2, hm2⟩
        have FN : Hid (Fin w d y T R k s t m w2) := (S1.out.two' S1.out.rf (S1.out.rw.mono (Nat.le_succ k)) (But.refl _ _) (fun x hx => .inl hx) D2 U2 (by rw [hm2, if_neg hr.out]; exact .same)).below B0.out
        clear D2 U2 hm2 hq2
        go_wp2_with fail
        go_ret
        exact ⟨_, rfl, FN.out⟩
      · have i2 : n < 1 := by omega
        replace hr := hide hr
        go_wp2_with fail
        refine (room_disk S1.out.dk n).mono ?_
        rintro e w2 ⟨q2, m2, T2, rfl, D2, U2, hq2, hm2⟩
        have FN : Hid (Fin w d y T R k s t m w2) := (S1.out.two' S1.out.rf (S1.out.rw.mono (Nat.le_succ k)) (But.refl _ _) (fun x hx => .inl hx) D2 U2 (by rw [hm2, if_neg hr.out]; exact .same)).below B0.out
        clear D2 U2 hm2 hq2
        go_wp2_with fail
        go_ret
        exact ⟨_, rfl, FN.out⟩
end Go.Proofs.Ytgbijkdfhkkieaa
