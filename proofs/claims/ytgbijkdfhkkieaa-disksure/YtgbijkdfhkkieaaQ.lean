/-
  A crash of a file: the walk.
-/
import Derived.Test.YtgbijkdfhkkieaaP
namespace Go.Proofs.Ytgbijkdfhkkieaa
open Go.RowKit Go.Maps Go.Lib
set_option linter.unusedVariables false
set_option linter.unusedSimpArgs false
set_option maxHeartbeats 8000000 in
set_option maxRecDepth 100000 in
theorem crash_any {w : World} {d bf bs g q : Nat} {m : M} {T : Nat → Prop} {V : Nat → Value × Value} (h : Dk w d m T bf bs V) (hg : g ∈ m.ids) {now sure : List Int} (hct : m.ct g = (now, sure)) (hl1 : now.length ≤ 1073741824) (hl2 : sure.length ≤ 1073741824) {ps : List Int} (hP : Pl w q ps T) :
    Calls Try.prog 36 #[ptr g, ptr q] w fun e w' => e = .returned (.tuple #[]) ∧ ∃ T' V', Dk w' d { m with ct := upd m.ct g ((crF now sure ps).1, (crF now sure ps).1) } T' bf bs V' ∧ Pl w' q (crF now sure ps).2 T' ∧ But (fun x => T x ∨ x = q) w w' ∧ ∀ x, T' x → T x ∨ w.heap.size ≤ x := by
  obtain ⟨a1, k1, e1, H1⟩ := h.has1 hg
  obtain ⟨a2, k2, e2, H2⟩ := h.has2 hg
  obtain ⟨f0, f1⟩ := h.fc hg
  have hb := h.byt g hg
  rw [e1] at f0
  rw [e2] at f1
  rw [hct] at f0 f1 H1 H2 hb
  simp only at f0 f1 H1 H2 hb
  have hqlt : Hid (q < w.heap.size) := by obtain ⟨_, _, _, X, _⟩ := hP; exact X.lt
  have hnq : Hid (¬ T q) := by obtain ⟨_, _, _, _, _, n1, _⟩ := hP; exact n1
  obtain ⟨n1, hn1⟩ : ∃ n1, now.length = n1 := ⟨_, rfl⟩
  obtain ⟨n2, hn2⟩ : ∃ n2, sure.length = n2 := ⟨_, rfl⟩
  have hcr : Hid ((crSz now sure ps).1 ≤ 1073741824) := by have := (crSz_le now sure ps).2; show _ ≤ _; omega
  rw [hn1] at f0 H1
  rw [hn2] at f1 H2
  have hDk := hide h
  have nq := hide hb.1
  have sq := hide hb.2
  have eV1 : Hid ((V g).1 = .slice a1 n1 k1) := by rw [hct] at e1; rw [← hn1]; exact e1
  have eV2 : Hid ((V g).2 = .slice a2 n2 k2) := by rw [hct] at e2; rw [← hn2]; exact e2
  clear h hb e1 e2
  by_cases hmo : sure.length < now.length
  · have ec : crSz now sure ps = (sure.length + ((nx ps).1 % (((now.length - sure.length : Nat) : Int) + 1)).toNat, (nx ps).2) := if_pos hmo
    have hx0 := nx_nonneg ps
    have hx1 : (nx ps).1 ≤ 9223372036854775807 := by
      obtain ⟨_, _, _, _, H, _⟩ := hP
      exact nx_le H.ints
    obtain ⟨mo, hmo2⟩ : ∃ mo, now.length - sure.length = mo := ⟨_, rfl⟩
    rw [hmo2] at ec
    have NX := hide (next_any hP)
    obtain ⟨x, hx⟩ : ∃ x, (nx ps).1 = x := ⟨_, rfl⟩
    obtain ⟨p1, hp1⟩ : ∃ p1, (nx ps).2 = p1 := ⟨_, rfl⟩
    rw [hx] at ec NX hx0 hx1
    rw [hp1] at ec NX
    have hy0 := Int.emod_nonneg x (show (mo : Int) + 1 ≠ 0 by omega)
    have hy1 := Int.emod_lt_of_pos x (show (0 : Int) < (mo : Int) + 1 by omega)
    obtain ⟨y, hy⟩ : ∃ y : Nat, x % ((mo : Int) + 1) = (y : Int) := ⟨(x % ((mo : Int) + 1)).toNat, by omega⟩
    obtain ⟨sz, hsz⟩ : ∃ sz, n2 + y = sz := ⟨_, rfl⟩
    have ec2 : crSz now sure ps = (sz, p1) := by rw [ec, hy, hn2]; simp [hsz]
    have y4 : (n1 : Int) - (n2 : Int) = (mo : Int) := by omega
    have y5 : 0 < (mo : Int) := by omega
    obtain ⟨mo1, hmo1⟩ : ∃ mo1 : Nat, (mo : Int) + 1 = (mo1 : Int) := ⟨mo + 1, by omega⟩
    have y6 : x.tmod (mo1 : Int) = (y : Int) := by rw [Int.tmod_eq_emod_of_nonneg hx0, ← hmo1]; exact hy
    have y7 : x % (mo1 : Int) = (y : Int) := by rw [← hmo1]; exact hy
    have y8 : (n2 : Int) + (y : Int) = (sz : Int) := by omega
    have y9 : ¬ ((mo1 : Int) = 0) := by omega
    have y10 : mo1 ≤ 1073741825 := by omega
    have hszb : sz ≤ 1073741824 := by have := hcr.out; rw [ec2] at this; exact this
    have eQ : Hid (crF now sure ps = mxA sz (fil sure sz) (fil now sz) p1) := by show crF now sure ps = _; unfold crF; rw [ec2]
    obtain ⟨S, hS⟩ : ∃ S, fil sure sz = S := ⟨_, rfl⟩
    obtain ⟨N, hN⟩ : ∃ N, fil now sz = N := ⟨_, rfl⟩
    rw [hS, hN] at eQ
    have hSl : Hid (S.length = sz) := by rw [← hS]; exact fil_length _ _
    have hNl : Hid (N.length = sz) := by rw [← hN]; exact fil_length _ _
    have hSb : Hid (Byt S) := by rw [← hS]; exact fil_byt sq.out _
    have hNb : Hid (Byt N) := by rw [← hN]; exact fil_byt nq.out _
    have hyb : y ≤ 1073741824 := by omega
    clear ec ec2 hx hp1 hmo hmo2 hy0 hy1 hy hP
    replace hsz := hide hsz
    replace hn1 := hide hn1
    replace hn2 := hide hn2
    replace hmo1' := hmo1
    clear hmo1'
    replace H1 := hide H1
    replace H2 := hide H2
    show Calls Try.prog 36 #[.pointer (some ⟨g, 0, none⟩), .pointer (some ⟨q, 0, none⟩)] _ _
    go_enter Try.func36, Try.ntmps36
    go_wp2_with fail
    refine NX.out.mono ?_
    rintro e w1 ⟨rfl, P1, b1⟩
    have D1 := hide (hDk.out.kept b1 (fun x e => by rw [e]; exact hnq.out))
    have hgq : g ≠ q := fun e => hnq.out (by rw [← e]; exact (hDk.out.ti g hg).1)
    replace f0 : w1.cell? ⟨g, 0, none⟩ = some (.slice a1 n1 k1) := by
      rw [← f0]; unfold World.cell?; simp only [b1.block g (hDk.out.fl g hg).1.lt hgq]
    replace f1 : w1.cell? ⟨g, 1, none⟩ = some (.slice a2 n2 k2) := by
      rw [← f1]; unfold World.cell?; simp only [b1.block g (hDk.out.fl g hg).1.lt hgq]
    replace H1 := hide (H1.out.but b1 (fun j hj e => hnq.out (by rw [← e]; exact (hDk.out.ti g hg).2.1 j (by rw [eV1.out]; exact hj))))
    replace H2 := hide (H2.out.but b1 (fun j hj e => hnq.out (by rw [← e]; exact (hDk.out.ti g hg).2.2 j (by rw [eV2.out]; exact hj))))
    replace P1 := hide P1
    replace b1 := hide b1
    clear NX
    go_wp2_with fail
    refine reg36_4 w1 g sz a1 a2 n1 n2 k1 k2 f0 f1 (fun x1 w' => w1.heap.size ≤ x1 ∧ Rw w' x1 N ∧ Below w1.heap.size w1 w') (fun x1 x2 w' => (Rw w' x1 N ∧ Rw w' x2 S) ∧ Below w1.heap.size w1 w' ∧ w1.heap.size ≤ x1 ∧ x1 < x2) ?_ ?_ _ _ _ _ _ _ _ _ _ _ _ _ _ _ _ _ _ _ _ _ _ _ _ _ _ _ _ _ _ _ _ _ _ _ _ _ _ _ _ _ _ _ _ _ _ _ _ _ _ _ _ _ _ _ _ _ _ _ _ _ _ _ _ _ _ _ _ _ _ _ ?_
    · rintro wx rfl
      refine (filled_any w1.drew a1 n1 k1 sz now (H1.out.kept ((Below.refl _ w1).drew) (Nat.le_refl _)) (by omega)).mono ?_
      rintro e w' ⟨rfl, R1, B1⟩
      have B2 : Below w1.heap.size w1 w' := ((Below.refl w1.heap.size w1).drew).trans B1
      exact ⟨w1.heap.size, rfl, ⟨Nat.le_refl _, by rw [← hN]; exact R1, B2⟩, (B2.cell (p := ⟨g, 1, none⟩) (D1.out.fl g hg).1.lt).trans f1⟩
    · rintro x1 wx ⟨h1, R1, B1⟩
      refine (filled_any wx a2 n2 k2 sz sure (H2.out.kept B1 (Nat.le_refl _)) (by omega)).mono ?_
      rintro e w' ⟨rfl, R2, B2⟩
      exact ⟨wx.heap.size, rfl, ⟨R1.below B2, by rw [← hS]; exact R2⟩, B1.trans (B2.mono B1.size), h1, R1.lt⟩
    rintro x1 x2 w2 ⟨⟨R1, R2⟩, B2, h1, h12⟩
    have hq2 : x1 ≠ q ∧ x2 ≠ q := by have := hqlt.out; have := b1.out.size; exact ⟨by omega, by omega⟩
    have P2 := P1.out.but (T' := T) (But.of_below B2 T) (fun x hx => .inl hx)
    have C0 : Hid (Cl w2 w2 x1 x2 q sz 0 S N p1 T S [] p1) := ⟨R1, R2, by simp, by simp, hSb.out, P2, by simp, But.refl _ _⟩
    have hx12 : Hid (x1 ≠ x2 ∧ x1 ≠ q ∧ x2 ≠ q ∧ w1.heap.size ≤ x1 ∧ w1.heap.size ≤ x2) := ⟨by omega, hq2.1, hq2.2, h1, by omega⟩
    replace B2 := hide B2
    clear R1 R2 P2 hq2 h1 h12 f0 f1
    go_wp2_with fail
    go_loopw [8] (fun i wr => ∃ j t O X p, i = .int .i64 ((t : Nat) : Int) ∧ Hid (t = 256 * j) ∧ Hid (j ≤ sz) ∧ Hid (Cl w2 wr x1 x2 q sz j S N p1 T O X p)) (fun i _ => sz - (Lib.intOf i).toNat)
    case atStart => exact ⟨0, 0, S, [], p1, rfl, (rfl : (0 : Nat) = 256 * 0), (Nat.zero_le _ : 0 ≤ sz), C0.out⟩
    case round =>
      obtain ⟨j, t, O, X, p, rfl, ht, hj, hC⟩ := hrel
      by_cases htl : t < sz
      · have i1 : (t : Int) < (sz : Int) := by omega
        obtain ⟨e0, he0⟩ : ∃ e0, min (t + 256) sz = e0 := ⟨_, rfl⟩
        have y1 : (if (t : Int) + 256 < (sz : Int) then (t : Int) + 256 else (sz : Int)) = (e0 : Int) := by rw [← he0]; split <;> omega
        have y2 : (if (sz : Int) < (t : Int) + 256 then (sz : Int) else (t : Int) + 256) = (e0 : Int) := by rw [← he0]; split <;> omega
        have y3 : min ((t : Int) + 256) (sz : Int) = (e0 : Int) := by rw [← he0]; omega
        have hte : t ≤ e0 ∧ e0 ≤ sz := by omega
        obtain ⟨k, hk⟩ : ∃ k, e0 - t = k := ⟨_, rfl⟩
        have hkm : Hid (k = min 256 (sz - 256 * j)) := by have := ht.out; show k = min 256 (sz - 256 * j); omega
        have RH : Hid (∀ (w : World) (r : Nat), (Instr.sliceAt 23 (.slice (some ⟨r, 0, none⟩) sz sz) (some (.int .i64 (t : Int))) (some (.int .i64 (e0 : Int))) none).run Try.prog w = .ok (.slice (some ⟨r, t, none⟩) k (sz - t)) w) := fun w r => by rw [← hk]; exact run_lh w r sz t e0 htl hte.1 hte.2
        have hOl : O.length = sz := by
          have h1 := hC.out.hX
          have h2 := ht.out
          rw [hC.out.hO, List.length_append, h1, List.length_drop, hSl.out]
          omega
        have MX : Hid (∀ wx : World, wx = wr.drew → Calls Try.prog 67 #[.slice (some ⟨x2, t, none⟩) k (sz - t), .slice (some ⟨x1, t, none⟩) k (sz - t), ptr q] wx fun e w' => e = .returned (.tuple #[]) ∧ (Rw w' x2 (put O t (mixS ((O.drop t).take k) ((N.drop t).take k) p).1) ∧ Pl w' q (mixS ((O.drop t).take k) ((N.drop t).take k) p).2 T ∧ But (fun x => x = x2 ∨ x = q) wr w')) := by
          rintro wx rfl
          have hC' := hC.out
          have hNl' := hNl.out
          have P' : Pl wr.drew q p T := hC'.pl.but (But.refl T wr).drew (fun x hx => .inl hx)
          have HN' : Has wr.drew (some ⟨x1, t, none⟩) k (sz - t) ((N.drop t).take k) := Rw.has (w := wr.drew) hC'.r1 hNb.out t k (sz - t) (by omega) (by omega) (by unfold maxLen; omega)
          refine (mix_any (w := wr.drew) hC'.r2 hC'.hb P' t k (sz - t) (sz - t) (some ⟨x1, t, none⟩) (by omega) (by omega) (by unfold maxLen; omega) HN' (fun i hi e => hx12.out.2.1 (by rw [← e]; simpa [Value.ownBlock] using hi)) (by omega)).mono ?_
          rintro e w' ⟨rfl, r1, r2, r3⟩
          exact ⟨rfl, r1, r2, (But.refl _ wr).drew.trans r3 (fun _ _ e => e)⟩
        replace he0 := hide he0
        replace hk := hide hk
        replace hte := hide hte
        replace hOl := hide hOl
        go_wp2_with fail
        refine reg36_9 wr q sz t e0 k x1 x2 RH.out _ MX.out _ _ _ _ _ _ _ _ _ _ _ _ _ _ _ _ _ _ _ _ _ _ _ _ _ _ _ _ _ _ _ _ _ _ _ _ _ _ _ _ _ _ _ _ _ _ _ _ _ _ _ _ _ _ _ _ _ _ _ _ _ _ _ _ _ _ _ ?_
        rintro w3 ⟨R3, P3, b3⟩
        have ST := hide (hC.out.step (by have := ht.out; omega) hSl.out hNl.out hNb.out hkm.out hx12.out.1 hx12.out.2.1 (by rw [← ht.out]; exact R3) (by rw [← ht.out]; exact P3) b3)
        clear R3 P3 b3 MX RH hC hkm
        go_wp2_with fail
        go_roundw
        case rel =>
          obtain ⟨O', X', p', hC'⟩ := ST.out
          exact ⟨j + 1, t + 256, O', X', p', by go_num, (by have := ht.out; show t + 256 = 256 * (j + 1); omega), (by have := ht.out; show j + 1 ≤ sz; omega), hC'⟩
        case measure => simp [Lib.intOf]; omega
      · have i1 : ¬ ((t : Int) < (sz : Int)) := by omega
        have eF := hide (hC.out.last (by have := ht.out; omega) hSl.out)
        have hOl : O.length = sz := by
          have h1 := hC.out.hX
          have h2 := ht.out
          rw [hC.out.hO, List.length_append, h1, List.length_drop, hSl.out]
          omega
        have HO : Has wr (some ⟨x2, 0, none⟩) sz sz O := by
          have := hC.out.r2.has hC.out.hb 0 sz sz (by omega) (Nat.le_refl _) (by unfold maxLen; omega)
          rwa [List.drop_zero, List.take_of_length_le (by omega)] at this
        have CL := hide (clone_any wr (some ⟨x2, 0, none⟩) sz sz O HO (by omega))
        clear HO
        replace hOl := hide hOl
        have bwr : Hid (But (fun x => x = q) w wr) := (b1.out.trans ((But.of_below B2.out (fun x => x = q))) (fun _ _ e => e)).trans hC.out.but (fun i hi e => by
          rcases e with e | e
          · have := hx12.out.2.2.2.2; have := b1.out.size; omega
          · exact e)
        go_wp2_with fail
        refine CL.out.mono ?_
        rintro e w4 ⟨a4, n4, c4, rfl, H4, B4, O4⟩
        have hn4 : O.length = n4 := H4.hlen
        have Dr := hDk.out.kept bwr.out (fun x e => by rw [e]; exact hnq.out)
        have X4 := ((Dr.below B4).fl g hg).1
        have z0 := X4.fz 0
        have z1 := X4.fz 1
        have t0 : w4.cell? ⟨g, 0, none⟩ = some (V g).1 := X4.cell 0
        have t1 : w4.cell? ⟨g, 1, none⟩ = some (V g).2 := X4.cell 1
        have nb : ∀ k, (Value.slice a4 n4 c4).ownBlock = some k → wr.heap.size ≤ k := fun k hk => (O4.lt k hk).1
        have R4 : Rw w4 x2 O := hC.out.r2.below B4
        have hgl := (hDk.out.fl g hg).1.lt
        have hgx : x2 ≠ g := by have := hx12.out.2.2.2.2; have := b1.out.size; omega
        have hwl : w.heap.size ≤ wr.heap.size := bwr.out.size
        have hx2r : x2 < wr.heap.size := hC.out.r2.lt
        obtain ⟨w6, hw6⟩ : ∃ w6, ((w4.setCell ⟨g, 0, none⟩ (.slice (some ⟨x2, 0, none⟩) sz sz)).setCell ⟨g, 1, none⟩ (.slice a4 n4 c4)) = w6 := ⟨_, rfl⟩
        have b6 : But (fun x => x = g) w4 w6 := by
          rw [← hw6]
          exact (but_setCell w4 g 0 _).trans (but_setCell _ g 1 _) (fun _ _ e => e)
        have X6 : Bx w6 g 82 #[.slice (some ⟨x2, 0, none⟩) sz sz, .slice a4 n4 c4] := by
          rw [← hw6]
          exact (X4.set1 0 _).set1 1 _
        have o1 : w6.ownsRow 0 5 1 (.slice (some ⟨x2, 0, none⟩) sz sz) O.length (u8s O) := by
          have := rw_owns (R4.but b6 hgx) (by rw [hOl.out]; unfold maxLen; omega)
          rwa [hOl.out] at this ⊢
        have o2 : w6.ownsRow 0 5 1 (.slice a4 n4 c4) O.length (u8s O) := by
          rw [hn4]
          exact owns_of_block (owns_mono O4 (Nat.zero_le _)) (fun k hk => b6.block k (O4.lt k hk).2 (fun e => by have := nb k hk; omega))
        have D6 := hide (hDk.out.file2 (q := q) hg hnq.out hqlt.out (w' := w6) (((bwr.out.mono (fun _ e => .inr e)).trans (But.of_below B4 _) (fun _ _ e => e)).trans b6 (fun _ _ e => .inl e)) X6 o1 o2 hC.out.hb hC.out.hb
          (fun k hk => by have e : x2 = k := by simpa [Value.ownBlock] using hk
                          have := hx12.out.2.2.2.2; have := b1.out.size; omega) (fun k hk => by have := nb k hk; omega)
          (fun k hk hk2 => by have e : x2 = k := by simpa [Value.ownBlock] using hk
                              have := nb k hk2; omega))
        have P6 : Hid (Pl w6 q p (fun x => T x ∨ (Value.slice (some ⟨x2, 0, none⟩) sz sz).ownBlock = some x ∨ (Value.slice a4 n4 c4).ownBlock = some x)) := by
          obtain ⟨ap, np, cp, XP, HP, m1, m2⟩ := hC.out.pl
          have bT : But T wr w6 := (But.of_below B4 T).trans (b6.mono (fun k e => by rw [e]; exact (hDk.out.ti g hg).1)) (fun _ _ e => e)
          refine ⟨ap, np, cp, XP.but bT m1, HP.but bT m2, fun e => ?_, fun hp k hk e => ?_⟩
          · rcases e with e | e | e
            · exact m1 e
            · exact hx12.out.2.2.1 (by simpa [Value.ownBlock] using e)
            · have := nb q e; have := hqlt.out; omega
          · obtain ⟨b, off, e1, e2, e3⟩ := HP.cells hp
            have hbk : b = k := by rw [e1] at hk; simpa [Value.ownBlock] using hk
            subst hbk
            rcases e with e | e | e
            · exact m2 hp b hk e
            · have e5 : x2 = b := by simpa [Value.ownBlock] using e
              subst e5
              have := e3 0 hp
              rw [hC.out.r2.cell] at this
              simp [u8s] at this
            · have := nb b e; omega
        have B6 : Hid (But (fun x => T x ∨ x = q) w w6) := ((bwr.out.mono (fun _ e => .inr e)).trans (But.of_below B4 _) (fun _ _ e => e)).trans (b6.mono (fun k e => by rw [e]; exact .inl (hDk.out.ti g hg).1)) (fun _ _ e => e)
        have U6 : Hid (∀ x, (T x ∨ (Value.slice (some ⟨x2, 0, none⟩) sz sz).ownBlock = some x ∨ (Value.slice a4 n4 c4).ownBlock = some x) → T x ∨ w.heap.size ≤ x) := fun x e => by
          rcases e with e | e | e
          · exact .inl e
          · have e5 : x2 = x := by simpa [Value.ownBlock] using e
            exact .inr (by have := hx12.out.2.2.2.2; have := b1.out.size; omega)
          · exact .inr (by have := nb x e; omega)
        clear o1 o2 X6 b6 R4 O4 B4 H4 Dr X4 nb hgl hgx hwl hx2r CL hn4 C0
        go_wp2_with fail
        go_end0
        have eF' : crF now sure ps = (O, p) := eQ.out.trans eF.out
        rw [eF']
        exact ⟨rfl, _, _, D6.out, P6.out, B6.out, U6.out⟩
  · have ec : crSz now sure ps = (sure.length, ps) := if_neg hmo
    obtain ⟨p1, hp1⟩ : ∃ p1, ps = p1 := ⟨_, rfl⟩
    obtain ⟨sz, hsz⟩ : ∃ sz, n2 = sz := ⟨_, rfl⟩
    have ec2 : crSz now sure ps = (sz, p1) := by rw [ec, hn2, hsz, ← hp1]
    have y5 : ¬ (0 < (n1 : Int) - (n2 : Int)) := by omega
    have y6 : (n1 : Int) - (n2 : Int) ≤ 0 := by omega
    have y7 : n1 ≤ 1073741824 := by omega
    have y8 : n2 ≤ 1073741824 := by omega
    have hszb : sz ≤ 1073741824 := by omega
    have eQ : Hid (crF now sure ps = mxA sz (fil sure sz) (fil now sz) p1) := by show crF now sure ps = _; unfold crF; rw [ec2]
    obtain ⟨S, hS⟩ : ∃ S, fil sure sz = S := ⟨_, rfl⟩
    obtain ⟨N, hN⟩ : ∃ N, fil now sz = N := ⟨_, rfl⟩
    rw [hS, hN] at eQ
    have hSl : Hid (S.length = sz) := by rw [← hS]; exact fil_length _ _
    have hNl : Hid (N.length = sz) := by rw [← hN]; exact fil_length _ _
    have hSb : Hid (Byt S) := by rw [← hS]; exact fil_byt sq.out _
    have hNb : Hid (Byt N) := by rw [← hN]; exact fil_byt nq.out _
    obtain ⟨w1, hw1⟩ : ∃ w1, w1 = w := ⟨_, rfl⟩
    have P1 : Hid (Pl w1 q p1 T) := by rw [hw1, ← hp1]; exact hP
    have b1 : Hid (But (fun x => x = q) w w1) := by rw [hw1]; exact But.refl _ _
    have D1 : Hid (Dk w1 d m T bf bs V) := by rw [hw1]; exact hDk.out
    rw [← hw1] at f0 f1 H1 H2
    have hw1' := hide hw1
    clear ec ec2 hmo hP
    replace hp1 := hide hp1
    replace hn1 := hide hn1
    replace hn2 := hide hn2
    replace H1 := hide H1
    replace H2 := hide H2
    suffices G : Calls Try.prog 36 #[ptr g, ptr q] w1 fun e w' => e = .returned (.tuple #[]) ∧ ∃ T' V', Dk w' d { m with ct := upd m.ct g ((crF now sure ps).1, (crF now sure ps).1) } T' bf bs V' ∧ Pl w' q (crF now sure ps).2 T' ∧ But (fun x => T x ∨ x = q) w w' ∧ ∀ x, T' x → T x ∨ w.heap.size ≤ x by
      rw [hw1] at G
      exact G
    clear hw1
    show Calls Try.prog 36 #[.pointer (some ⟨g, 0, none⟩), .pointer (some ⟨q, 0, none⟩)] _ _
    go_enter Try.func36, Try.ntmps36
    go_wp2_with fail
    refine reg36_4 w1 g sz a1 a2 n1 n2 k1 k2 f0 f1 (fun x1 w' => w1.heap.size ≤ x1 ∧ Rw w' x1 N ∧ Below w1.heap.size w1 w') (fun x1 x2 w' => (Rw w' x1 N ∧ Rw w' x2 S) ∧ Below w1.heap.size w1 w' ∧ w1.heap.size ≤ x1 ∧ x1 < x2) ?_ ?_ _ _ _ _ _ _ _ _ _ _ _ _ _ _ _ _ _ _ _ _ _ _ _ _ _ _ _ _ _ _ _ _ _ _ _ _ _ _ _ _ _ _ _ _ _ _ _ _ _ _ _ _ _ _ _ _ _ _ _ _ _ _ _ _ _ _ _ _ _ _ ?_
    · rintro wx rfl
      refine (filled_any w1.drew a1 n1 k1 sz now (H1.out.kept ((Below.refl _ w1).drew) (Nat.le_refl _)) (by omega)).mono ?_
      rintro e w' ⟨rfl, R1, B1⟩
      have B2 : Below w1.heap.size w1 w' := ((Below.refl w1.heap.size w1).drew).trans B1
      exact ⟨w1.heap.size, rfl, ⟨Nat.le_refl _, by rw [← hN]; exact R1, B2⟩, (B2.cell (p := ⟨g, 1, none⟩) (D1.out.fl g hg).1.lt).trans f1⟩
    · rintro x1 wx ⟨h1, R1, B1⟩
      refine (filled_any wx a2 n2 k2 sz sure (H2.out.kept B1 (Nat.le_refl _)) (by omega)).mono ?_
      rintro e w' ⟨rfl, R2, B2⟩
      exact ⟨wx.heap.size, rfl, ⟨R1.below B2, by rw [← hS]; exact R2⟩, B1.trans (B2.mono B1.size), h1, R1.lt⟩
    rintro x1 x2 w2 ⟨⟨R1, R2⟩, B2, h1, h12⟩
    have hq2 : x1 ≠ q ∧ x2 ≠ q := by have := hqlt.out; have := b1.out.size; exact ⟨by omega, by omega⟩
    have P2 := P1.out.but (T' := T) (But.of_below B2 T) (fun x hx => .inl hx)
    have C0 : Hid (Cl w2 w2 x1 x2 q sz 0 S N p1 T S [] p1) := ⟨R1, R2, by simp, by simp, hSb.out, P2, by simp, But.refl _ _⟩
    have hx12 : Hid (x1 ≠ x2 ∧ x1 ≠ q ∧ x2 ≠ q ∧ w1.heap.size ≤ x1 ∧ w1.heap.size ≤ x2) := ⟨by omega, hq2.1, hq2.2, h1, by omega⟩
    replace B2 := hide B2
    clear R1 R2 P2 hq2 h1 h12 f0 f1
    go_wp2_with fail
    go_loopw [8] (fun i wr => ∃ j t O X p, i = .int .i64 ((t : Nat) : Int) ∧ Hid (t = 256 * j) ∧ Hid (j ≤ sz) ∧ Hid (Cl w2 wr x1 x2 q sz j S N p1 T O X p)) (fun i _ => sz - (Lib.intOf i).toNat)
    case atStart => exact ⟨0, 0, S, [], p1, rfl, (rfl : (0 : Nat) = 256 * 0), (Nat.zero_le _ : 0 ≤ sz), C0.out⟩
    case round =>
      obtain ⟨j, t, O, X, p, rfl, ht, hj, hC⟩ := hrel
      by_cases htl : t < sz
      · have i1 : (t : Int) < (sz : Int) := by omega
        obtain ⟨e0, he0⟩ : ∃ e0, min (t + 256) sz = e0 := ⟨_, rfl⟩
        have y1 : (if (t : Int) + 256 < (sz : Int) then (t : Int) + 256 else (sz : Int)) = (e0 : Int) := by rw [← he0]; split <;> omega
        have y2 : (if (sz : Int) < (t : Int) + 256 then (sz : Int) else (t : Int) + 256) = (e0 : Int) := by rw [← he0]; split <;> omega
        have y3 : min ((t : Int) + 256) (sz : Int) = (e0 : Int) := by rw [← he0]; omega
        have hte : t ≤ e0 ∧ e0 ≤ sz := by omega
        obtain ⟨k, hk⟩ : ∃ k, e0 - t = k := ⟨_, rfl⟩
        have hkm : Hid (k = min 256 (sz - 256 * j)) := by have := ht.out; show k = min 256 (sz - 256 * j); omega
        have RH : Hid (∀ (w : World) (r : Nat), (Instr.sliceAt 23 (.slice (some ⟨r, 0, none⟩) sz sz) (some (.int .i64 (t : Int))) (some (.int .i64 (e0 : Int))) none).run Try.prog w = .ok (.slice (some ⟨r, t, none⟩) k (sz - t)) w) := fun w r => by rw [← hk]; exact run_lh w r sz t e0 htl hte.1 hte.2
        have hOl : O.length = sz := by
          have h1 := hC.out.hX
          have h2 := ht.out
          rw [hC.out.hO, List.length_append, h1, List.length_drop, hSl.out]
          omega
        have MX : Hid (∀ wx : World, wx = wr.drew → Calls Try.prog 67 #[.slice (some ⟨x2, t, none⟩) k (sz - t), .slice (some ⟨x1, t, none⟩) k (sz - t), ptr q] wx fun e w' => e = .returned (.tuple #[]) ∧ (Rw w' x2 (put O t (mixS ((O.drop t).take k) ((N.drop t).take k) p).1) ∧ Pl w' q (mixS ((O.drop t).take k) ((N.drop t).take k) p).2 T ∧ But (fun x => x = x2 ∨ x = q) wr w')) := by
          rintro wx rfl
          have hC' := hC.out
          have hNl' := hNl.out
          have P' : Pl wr.drew q p T := hC'.pl.but (But.refl T wr).drew (fun x hx => .inl hx)
          have HN' : Has wr.drew (some ⟨x1, t, none⟩) k (sz - t) ((N.drop t).take k) := Rw.has (w := wr.drew) hC'.r1 hNb.out t k (sz - t) (by omega) (by omega) (by unfold maxLen; omega)
          refine (mix_any (w := wr.drew) hC'.r2 hC'.hb P' t k (sz - t) (sz - t) (some ⟨x1, t, none⟩) (by omega) (by omega) (by unfold maxLen; omega) HN' (fun i hi e => hx12.out.2.1 (by rw [← e]; simpa [Value.ownBlock] using hi)) (by omega)).mono ?_
          rintro e w' ⟨rfl, r1, r2, r3⟩
          exact ⟨rfl, r1, r2, (But.refl _ wr).drew.trans r3 (fun _ _ e => e)⟩
        replace he0 := hide he0
        replace hk := hide hk
        replace hte := hide hte
        replace hOl := hide hOl
        go_wp2_with fail
        refine reg36_9 wr q sz t e0 k x1 x2 RH.out _ MX.out _ _ _ _ _ _ _ _ _ _ _ _ _ _ _ _ _ _ _ _ _ _ _ _ _ _ _ _ _ _ _ _ _ _ _ _ _ _ _ _ _ _ _ _ _ _ _ _ _ _ _ _ _ _ _ _ _ _ _ _ _ _ _ _ _ _ _ ?_
        rintro w3 ⟨R3, P3, b3⟩
        have ST := hide (hC.out.step (by have := ht.out; omega) hSl.out hNl.out hNb.out hkm.out hx12.out.1 hx12.out.2.1 (by rw [← ht.out]; exact R3) (by rw [← ht.out]; exact P3) b3)
        clear R3 P3 b3 MX RH hC hkm
        go_wp2_with fail
        go_roundw
        case rel =>
          obtain ⟨O', X', p', hC'⟩ := ST.out
          exact ⟨j + 1, t + 256, O', X', p', by go_num, (by have := ht.out; show t + 256 = 256 * (j + 1); omega), (by have := ht.out; show j + 1 ≤ sz; omega), hC'⟩
        case measure => simp [Lib.intOf]; omega
      · have i1 : ¬ ((t : Int) < (sz : Int)) := by omega
        have eF := hide (hC.out.last (by have := ht.out; omega) hSl.out)
        have hOl : O.length = sz := by
          have h1 := hC.out.hX
          have h2 := ht.out
          rw [hC.out.hO, List.length_append, h1, List.length_drop, hSl.out]
          omega
        have HO : Has wr (some ⟨x2, 0, none⟩) sz sz O := by
          have := hC.out.r2.has hC.out.hb 0 sz sz (by omega) (Nat.le_refl _) (by unfold maxLen; omega)
          rwa [List.drop_zero, List.take_of_length_le (by omega)] at this
        have CL := hide (clone_any wr (some ⟨x2, 0, none⟩) sz sz O HO (by omega))
        clear HO
        replace hOl := hide hOl
        have bwr : Hid (But (fun x => x = q) w wr) := (b1.out.trans ((But.of_below B2.out (fun x => x = q))) (fun _ _ e => e)).trans hC.out.but (fun i hi e => by
          rcases e with e | e
          · have := hx12.out.2.2.2.2; have := b1.out.size; omega
          · exact e)
        go_wp2_with fail
        refine CL.out.mono ?_
        rintro e w4 ⟨a4, n4, c4, rfl, H4, B4, O4⟩
        have hn4 : O.length = n4 := H4.hlen
        have Dr := hDk.out.kept bwr.out (fun x e => by rw [e]; exact hnq.out)
        have X4 := ((Dr.below B4).fl g hg).1
        have z0 := X4.fz 0
        have z1 := X4.fz 1
        have t0 : w4.cell? ⟨g, 0, none⟩ = some (V g).1 := X4.cell 0
        have t1 : w4.cell? ⟨g, 1, none⟩ = some (V g).2 := X4.cell 1
        have nb : ∀ k, (Value.slice a4 n4 c4).ownBlock = some k → wr.heap.size ≤ k := fun k hk => (O4.lt k hk).1
        have R4 : Rw w4 x2 O := hC.out.r2.below B4
        have hgl := (hDk.out.fl g hg).1.lt
        have hgx : x2 ≠ g := by have := hx12.out.2.2.2.2; have := b1.out.size; omega
        have hwl : w.heap.size ≤ wr.heap.size := bwr.out.size
        have hx2r : x2 < wr.heap.size := hC.out.r2.lt
        obtain ⟨w6, hw6⟩ : ∃ w6, ((w4.setCell ⟨g, 0, none⟩ (.slice (some ⟨x2, 0, none⟩) sz sz)).setCell ⟨g, 1, none⟩ (.slice a4 n4 c4)) = w6 := ⟨_, rfl⟩
        have b6 : But (fun x => x = g) w4 w6 := by
          rw [← hw6]
          exact (but_setCell w4 g 0 _).trans (but_setCell _ g 1 _) (fun _ _ e => e)
        have X6 : Bx w6 g 82 #[.slice (some ⟨x2, 0, none⟩) sz sz, .slice a4 n4 c4] := by
          rw [← hw6]
          exact (X4.set1 0 _).set1 1 _
        have o1 : w6.ownsRow 0 5 1 (.slice (some ⟨x2, 0, none⟩) sz sz) O.length (u8s O) := by
          have := rw_owns (R4.but b6 hgx) (by rw [hOl.out]; unfold maxLen; omega)
          rwa [hOl.out] at this ⊢
        have o2 : w6.ownsRow 0 5 1 (.slice a4 n4 c4) O.length (u8s O) := by
          rw [hn4]
          exact owns_of_block (owns_mono O4 (Nat.zero_le _)) (fun k hk => b6.block k (O4.lt k hk).2 (fun e => by have := nb k hk; omega))
        have D6 := hide (hDk.out.file2 (q := q) hg hnq.out hqlt.out (w' := w6) (((bwr.out.mono (fun _ e => .inr e)).trans (But.of_below B4 _) (fun _ _ e => e)).trans b6 (fun _ _ e => .inl e)) X6 o1 o2 hC.out.hb hC.out.hb
          (fun k hk => by have e : x2 = k := by simpa [Value.ownBlock] using hk
                          have := hx12.out.2.2.2.2; have := b1.out.size; omega) (fun k hk => by have := nb k hk; omega)
          (fun k hk hk2 => by have e : x2 = k := by simpa [Value.ownBlock] using hk
                              have := nb k hk2; omega))
        have P6 : Hid (Pl w6 q p (fun x => T x ∨ (Value.slice (some ⟨x2, 0, none⟩) sz sz).ownBlock = some x ∨ (Value.slice a4 n4 c4).ownBlock = some x)) := by
          obtain ⟨ap, np, cp, XP, HP, m1, m2⟩ := hC.out.pl
          have bT : But T wr w6 := (But.of_below B4 T).trans (b6.mono (fun k e => by rw [e]; exact (hDk.out.ti g hg).1)) (fun _ _ e => e)
          refine ⟨ap, np, cp, XP.but bT m1, HP.but bT m2, fun e => ?_, fun hp k hk e => ?_⟩
          · rcases e with e | e | e
            · exact m1 e
            · exact hx12.out.2.2.1 (by simpa [Value.ownBlock] using e)
            · have := nb q e; have := hqlt.out; omega
          · obtain ⟨b, off, e1, e2, e3⟩ := HP.cells hp
            have hbk : b = k := by rw [e1] at hk; simpa [Value.ownBlock] using hk
            subst hbk
            rcases e with e | e | e
            · exact m2 hp b hk e
            · have e5 : x2 = b := by simpa [Value.ownBlock] using e
              subst e5
              have := e3 0 hp
              rw [hC.out.r2.cell] at this
              simp [u8s] at this
            · have := nb b e; omega
        have B6 : Hid (But (fun x => T x ∨ x = q) w w6) := ((bwr.out.mono (fun _ e => .inr e)).trans (But.of_below B4 _) (fun _ _ e => e)).trans (b6.mono (fun k e => by rw [e]; exact .inl (hDk.out.ti g hg).1)) (fun _ _ e => e)
        have U6 : Hid (∀ x, (T x ∨ (Value.slice (some ⟨x2, 0, none⟩) sz sz).ownBlock = some x ∨ (Value.slice a4 n4 c4).ownBlock = some x) → T x ∨ w.heap.size ≤ x) := fun x e => by
          rcases e with e | e | e
          · exact .inl e
          · have e5 : x2 = x := by simpa [Value.ownBlock] using e
            exact .inr (by have := hx12.out.2.2.2.2; have := b1.out.size; omega)
          · exact .inr (by have := nb x e; omega)
        clear o1 o2 X6 b6 R4 O4 B4 H4 Dr X4 nb hgl hgx hwl hx2r CL hn4 C0
        go_wp2_with fail
        go_end0
        have eF' : crF now sure ps = (O, p) := eQ.out.trans eF.out
        rw [eF']
        exact ⟨rfl, _, _, D6.out, P6.out, B6.out, U6.out⟩
end Go.Proofs.Ytgbijkdfhkkieaa
