/-
  Rename.
-/
import Derived.Test.YtgbijkdfhkkieaaX
namespace Go.Proofs.Ytgbijkdfhkkieaa
open Go.RowKit Go.Maps Go.Lib
set_option linter.unusedVariables false
set_option linter.unusedSimpArgs false

section
variable {w w' : World} {d bf bs : Nat} {m : M} {T : Nat → Prop} {V : Nat → Value × Value}
theorem all2 (s t : ByteArray) : [s, t].all nameOk = (nameOk s && nameOk t) := by simp
/-- What the directory is, and how many sectors are taken, behind a file's dropping. -/
def Drp (m : M) (t : ByteArray) (u : Int) (D : DataW Nat) : Prop :=
  (m.files.atKey (key t) .nil = .nil ∧ u = m.used ∧ D = m.files) ∨ ∃ g, m.files.atKey (key t) .nil = .held g ∧ g ∈ m.ids ∧ u = m.used - (sec (m.ct g).1.length : Int) ∧ D = m.files.del (key t)
/-- What Rename does. -/
def Rn (m : M) (s t : ByteArray) (r : Int) (m' : M) : Prop :=
  (∃ g, nameOk s = true ∧ nameOk t = true ∧ (pw m).gone = false ∧ m.files.atKey (key s) .nil = .held g ∧ g ∈ m.ids ∧ r = 0 ∧
    ((s = t ∧ m' = dn (pw m)) ∨ (s ≠ t ∧ ∃ u D, Drp (pw m) t u D ∧ m' = dn { pw m with used := u, files := (D.del (key s)).put (key t) (.held g), n := (pw m).n + 1 }))) ∨
  (r ≠ 0 ∧ (m' = m ∨ m' = pw m))
set_option maxHeartbeats 4000000 in
set_option maxRecDepth 100000 in
theorem rename_any (h : Disk w d m T) (hm : Sm m) (s t : ByteArray) : Calls Try.prog 31 #[ptr d, .string s, .string t] w (Res w d T (Rn m s t)) := by
  obtain ⟨bf, bs, V, h⟩ := h
  have hp := hide hm.pw
  have N := hide (nms_two w s t)
  have A := hide (h.alloc (.cells #[.string s, .string t] 9))
  have bA := hide (but_alloc (fun x => x = d) w (.cells #[.string s, .string t] 9))
  obtain ⟨wA, hwA⟩ : ∃ wA, w.alloc (.cells #[.string s, .string t] 9) = wA := ⟨_, rfl⟩
  rw [hwA] at A N bA
  replace h := hide h
  cases hk : nameOk s && nameOk t with
  | false =>
    go_enter Try.func31, Try.ntmps31
    go_wp2_with fail
    refine (begin_any A.out N.out).mono ?_
    rintro e w1 ⟨rfl, D1, b1⟩
    replace D1 := hide D1
    replace b1 := hide (h.out.toT (bA.out.trans b1 (fun _ _ e => e)))
    simp only [all2, hk, bg, if_false, Bool.false_eq_true] at D1 ⊢
    clear hwA
    replace hk := hide hk
    go_wp2_with fail
    go_ret
    exact ⟨2, m, T, rfl, ⟨bf, bs, V, D1.out⟩, up_same b1.out, .inr ⟨by decide, .inl rfl⟩⟩
  | true =>
    have hks : nameOk s = true := by revert hk; cases nameOk s <;> simp
    have hkt : nameOk t = true := by revert hk; cases nameOk s <;> simp
    have hs := maxLen_of_name hks
    have ht := maxLen_of_name hkt
    cases hg : (pw m).gone with
    | true =>
      go_enter Try.func31, Try.ntmps31
      go_wp2_with fail
      refine (begin_any A.out N.out).mono ?_
      rintro e w1 ⟨rfl, D1, b1⟩
      replace D1 := hide D1
      replace b1 := hide (h.out.toT (bA.out.trans b1 (fun _ _ e => e)))
      simp only [all2, hk, bg, if_true, hg] at D1 ⊢
      clear hwA
      replace hg := hide hg
      replace hk := hide hk
      replace hks := hide hks
      replace hkt := hide hkt
      go_wp2_with fail
      go_ret
      exact ⟨8, pw m, T, rfl, ⟨bf, bs, V, D1.out⟩, up_same b1.out, .inr ⟨by decide, .inr rfl⟩⟩
    | false =>
      go_enter Try.func31, Try.ntmps31
      go_wp2_with fail
      refine (begin_any A.out N.out).mono ?_
      rintro e w1 ⟨rfl, D1, b1⟩
      replace b1 := hide (h.out.toT (bA.out.trans b1 (fun _ _ e => e)))
      simp only [all2, hk, bg, if_true, hg, if_false, Bool.false_eq_true] at D1 ⊢
      clear hwA
      replace hg := hide hg
      replace hk := hide hk
      replace hks := hide hks
      replace hkt := hide hkt
      go_wp2_with fail
      refine (find_any D1 hs).mono ?_
      rintro e w2 ⟨hw2, hc⟩
      replace hw2 := hw2.symm
      subst hw2
      rw [(pw_same m).1, (pw_same m).2.2.1] at hc
      rcases hc with ⟨ha, rfl⟩ | ⟨g, ha, hgi, rfl⟩
      · replace ha := hide ha
        replace D1 := hide D1
        go_wp2_with fail
        go_ret
        exact ⟨5, pw m, T, rfl, ⟨bf, bs, V, D1.out⟩, up_same b1.out, .inr ⟨by decide, .inr rfl⟩⟩
      · replace ha := hide ha
        replace hgi := hide hgi
        by_cases hst : s = t
        · have hb1 : (ByteArray.toList s != ByteArray.toList t) = false := by rw [hst]; simp
          have hb2 : (ByteArray.toList s == ByteArray.toList t) = true := by rw [hst]; simp
          replace hst := hide hst
          go_wp2_with fail
          refine (done_any D1 hp.out.hl hp.out.hs).mono ?_
          rintro e w4 ⟨rfl, D4, b4⟩
          replace b4 := hide (b1.out.trans (h.out.toT b4) (fun _ _ e => e))
          replace D4 := hide D4
          clear D1
          go_wp2_with fail
          go_ret
          exact ⟨0, _, T, rfl, ⟨bf, bs, V, D4.out⟩, up_same b4.out, .inl ⟨g, hks.out, hkt.out, hg.out, ha.out, hgi.out, rfl, .inl ⟨hst.out, rfl⟩⟩⟩
        · have hne : ByteArray.toList s ≠ ByteArray.toList t := fun e => hst (by rw [ByteArray.toList_eq, ByteArray.toList_eq] at e; exact ByteArray.ext (Array.toList_inj.1 e))
          have hb1 : (ByteArray.toList s != ByteArray.toList t) = true := bne_iff_ne.2 hne
          have hb2 : (ByteArray.toList s == ByteArray.toList t) = false := beq_eq_false_iff_ne.2 hne
          replace hne := hide hne
          replace hst := hide hst
          go_wp2_with fail
          refine (drop_any D1 hp.out ht).mono ?_
          rintro e w2 ⟨rfl, hd⟩
          obtain ⟨u, D, hD, D2, b2⟩ : ∃ u D, Drp (pw m) t u D ∧ Dk w2 d { pw m with used := u, files := D } T bf bs V ∧ But T w1 w2 := by
            rcases hd with ⟨e1, rfl⟩ | ⟨g', e1, D2, b2⟩
            · exact ⟨_, _, .inl ⟨e1, rfl, rfl⟩, D1, But.refl _ _⟩
            · exact ⟨_, _, .inr ⟨g', e1, D1.vf _ _ e1, rfl, rfl⟩, D2, b2⟩
          replace b2 := hide (b1.out.trans b2 (fun _ _ e => e))
          clear hd D1 b1
          replace hD := hide hD
          obtain ⟨q0, q1, q2, q3, q4, q5, q6⟩ := D2.cs
          have own := hide D2.mf
          replace D2 := hide D2
          have gi2 : Hid (g ∈ (pw m).ids) := by
            show g ∈ (pw m).ids
            rw [(pw_same m).2.2.1]; exact hgi.out
          have hn : (pw m).n < maxLen := by have := hp.out.hn; unfold maxLen; omega
          go_wp2_with (first | (at_delete; refine wpList_delete_own _ rfl _ _ 62 9 rfl 73 law Try.underlying62 _ bf (pw m).n D rfl own.out _ _ rfl (hkey hs) ?_; intro w3 own3 turn3; have D3 := hide (D2.out.turn (D' := D.del (key s)) (n' := (pw m).n) ((But.refl (fun x => x = bf) w2).grown turn3.grown (fun k e _ => by cases e; rfl)) own3 (Nat.le_refl _) (vdel D2.out.vf _)); have b3 := hide (b2.out.grown turn3.grown (fun k e _ => by cases e; exact h.out.tf)); clear own3 turn3 q0 q1 q2 q3 q4 q5 q6; obtain ⟨r0, r1, r2, r3, r4, r5, r6⟩ := D3.out.cs) | (at_mapUpdate; refine wpList_mapUpdate_own _ rfl _ _ _ 62 rfl 9 73 law Try.underlying62 pe bf (pw m).n (D.del (key s)) rfl D3.out.mf hn _ _ _ rfl rfl (hkey ht) (.held g) [] (pe_ptr g) ?_; intro w5 own5 gr5))
          have D5 := hide (D3.out.turn (D' := (D.del (key s)).put (key t) (.held g)) (n' := (pw m).n + 1) ((But.refl (fun x => x = bf) _).grown gr5 (fun k e _ => by cases e; rfl)) own5 (Nat.le_succ _) (vput D3.out.mf.isMap D3.out.vf _ g gi2.out))
          have b5 := hide (b3.out.grown gr5 (fun k e _ => by cases e; exact h.out.tf))
          clear own5 gr5 r0 r1 r2 r3 r4 r5 r6 hn own
          go_wp2_with fail
          refine (done_any D5.out hp.out.hl hp.out.hs).mono ?_
          rintro e w6 ⟨rfl, D6, b6⟩
          replace b6 := hide (b5.out.trans (h.out.toT b6) (fun _ _ e => e))
          replace D6 := hide D6
          clear D5
          go_wp2_with fail
          go_ret
          exact ⟨0, _, T, rfl, ⟨bf, bs, V, D6.out⟩, up_same b6.out, .inl ⟨g, hks.out, hkt.out, hg.out, ha.out, hgi.out, rfl, .inr ⟨hst.out, u, D, hD.out, rfl⟩⟩⟩
end
end Go.Proofs.Ytgbijkdfhkkieaa
