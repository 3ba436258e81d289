/-
  Create, Read, Make, Rename.
-/
import Derived.Test.YtgbijkdfhkkieaaF
namespace Go.Proofs.Ytgbijkdfhkkieaa
open Go.RowKit Go.Maps Go.Lib
set_option linter.unusedVariables false
set_option linter.unusedSimpArgs false

section
variable {w w' : World} {d bf bs : Nat} {m : M} {T : Nat → Prop} {V : Nat → Value × Value}
def crt (m : M) (s : ByteArray) (g : Nat) : M := dn { pw m with ids := g :: (pw m).ids, ct := upd (pw m).ct g ([], []), files := (pw m).files.put (key s) (.held g), n := (pw m).n + 1 }
/-- What Create answers. -/
def Cr (m : M) (T : Nat → Prop) (s : ByteArray) (r : Int) (m' : M) : Prop :=
  (nameOk s = false ∧ r = 2 ∧ m' = m) ∨ (nameOk s = true ∧ (pw m).gone = true ∧ r = 8 ∧ m' = pw m) ∨ (nameOk s = true ∧ (pw m).gone = false ∧ (∃ g, m.files.atKey (key s) .nil = .held g) ∧ r = 6 ∧ m' = pw m) ∨
  (nameOk s = true ∧ (pw m).gone = false ∧ m.files.atKey (key s) .nil = .nil ∧ r = 0 ∧ ∃ g, g ∉ m.ids ∧ ¬ T g ∧ m' = crt m s g)
set_option maxHeartbeats 2000000 in
set_option maxRecDepth 100000 in
theorem create_any (h : Disk w d m T) (hm : Sm m) (s : ByteArray) : Calls Try.prog 12 #[ptr d, .string s] w (Res w d T (Cr m T s)) := by
  obtain ⟨bf, bs, V, h⟩ := h
  have hp := hide hm.pw
  have N := hide (nms_one w s)
  have A := hide (h.alloc (.cells #[.string s] 9))
  have bA := hide (but_alloc (fun x => x = d) w (.cells #[.string s] 9))
  obtain ⟨wA, hwA⟩ : ∃ wA, w.alloc (.cells #[.string s] 9) = wA := ⟨_, rfl⟩
  rw [hwA] at A N bA
  replace h := hide h
  cases hk : nameOk s with
  | false =>
    go_enter Try.func12, Try.ntmps12
    go_wp2_with fail
    refine (begin_any A.out N.out).mono ?_
    rintro e w1 ⟨rfl, D1, b1⟩
    replace D1 := hide D1
    replace b1 := hide (h.out.toT (bA.out.trans b1 (fun _ _ e => e)))
    simp only [all1, hk, bg, if_false, Bool.false_eq_true] at D1 ⊢
    clear hwA
    go_wp2_with fail
    go_ret
    exact ⟨2, m, T, rfl, ⟨bf, bs, V, D1.out⟩, up_same b1.out, .inl ⟨hk, rfl, rfl⟩⟩
  | true =>
    have hs := maxLen_of_name hk
    cases hg : (pw m).gone with
    | true =>
      go_enter Try.func12, Try.ntmps12
      go_wp2_with fail
      refine (begin_any A.out N.out).mono ?_
      rintro e w1 ⟨rfl, D1, b1⟩
      replace D1 := hide D1
      replace b1 := hide (h.out.toT (bA.out.trans b1 (fun _ _ e => e)))
      simp only [all1, hk, bg, if_true, hg] at D1 ⊢
      clear hwA
      replace hg := hide hg
      replace hk := hide hk
      go_wp2_with fail
      go_ret
      exact ⟨8, pw m, T, rfl, ⟨bf, bs, V, D1.out⟩, up_same b1.out, .inr (.inl ⟨hk.out, hg.out, rfl, rfl⟩)⟩
    | false =>
      go_enter Try.func12, Try.ntmps12
      go_wp2_with fail
      refine (begin_any A.out N.out).mono ?_
      rintro e w1 ⟨rfl, D1, b1⟩
      replace b1 := hide (h.out.toT (bA.out.trans b1 (fun _ _ e => e)))
      simp only [all1, hk, bg, if_true, hg, if_false, Bool.false_eq_true] at D1 ⊢
      clear hwA
      replace hg := hide hg
      replace hk := hide hk
      obtain ⟨c0, c1, c2, c3, c4, c5, c6⟩ := D1.cs
      rcases look D1.mf hs with ⟨e, r⟩ | ⟨g, e, r⟩
      · rw [(pw_same m).1] at e
        replace e := hide e
        have D2 := D1.add
        obtain ⟨g, hge⟩ : ∃ g, w1.heap.size = g := ⟨_, rfl⟩
        obtain ⟨q0, q1, q2, q3, q4, q5, q6⟩ := D2.cs
        have hgi : Hid (g ∉ m.ids ∧ ¬ T g) := by
          have key : ¬ T g := fun ht => by have := D1.lt g ht; omega
          refine ⟨fun hi => key ?_, key⟩
          exact (D1.ti g (by rw [(pw_same m).2.2.1]; exact hi)).1
        have b2 := hide (b1.out.alloc (.cells #[.slice none 0 0, .slice none 0 0] 82))
        have own := hide D2.mf
        have hn : (pw m).n < maxLen := by have := hp.out.hn; unfold maxLen; omega
        rw [hge] at D2 own
        replace D1 := hide D1
        replace D2 := hide D2
        have hsz := hide hge
        go_wp2_with (at_mapUpdate; refine wpList_mapUpdate_own _ rfl _ _ _ 62 rfl 9 73 law Try.underlying62 pe bf (pw m).n (pw m).files rfl own.out hn _ _ _ rfl rfl (hkey hs) (.held g) [] (pe_ptr g) ?_; intro w3 own3 gr3)
        have D3 := hide (D2.out.turn (D' := (pw m).files.put (key s) (.held g)) (n' := (pw m).n + 1) ((But.refl (fun x => x = bf) _).grown gr3 (fun k e _ => by cases e; rfl)) own3 (Nat.le_succ _) (vput D2.out.mf.isMap D2.out.vf _ g (List.mem_cons_self)))
        have b3 := hide (b2.out.grown gr3 (fun k e _ => by cases e; exact h.out.tf))
        have hs1 : Hid (w.heap.size ≤ w1.heap.size) := b1.out.size
        clear own3 gr3 hge r c0 c1 c2 c3 c4 c5 c6 q0 q1 q2 q3 q4 q5 q6 hn
        go_wp2_with fail
        refine (done_any D3.out hp.out.hl hp.out.hs).mono ?_
        rintro e w4 ⟨rfl, D4, b4⟩
        replace b4 := hide (b3.out.trans (h.out.toT b4) (fun _ _ e => e))
        replace D4 := hide D4
        clear D3
        go_wp2_with fail
        go_ret
        refine ⟨0, _, _, rfl, ⟨bf, bs, _, D4.out⟩, ⟨b4.out, fun x hx => ?_⟩, .inr (.inr (.inr ⟨hk.out, hg.out, e.out, rfl, g, hgi.out.1, hgi.out.2, rfl⟩))⟩
        rcases hx with hx | hx
        · exact .inl hx
        · exact .inr (Nat.le_trans hs1.out hx.1)
      · rw [(pw_same m).1] at e
        replace e := hide e
        replace D1 := hide D1
        go_wp2_with fail
        go_ret
        exact ⟨6, pw m, T, rfl, ⟨bf, bs, V, D1.out⟩, up_same b1.out, .inr (.inr (.inl ⟨hk.out, hg.out, ⟨g, e.out⟩, rfl, rfl⟩))⟩
/-- Is there a file that can be read? -/
def Rb (m : M) (s : ByteArray) (g : Nat) : Prop := nameOk s = true ∧ m.gone = false ∧ m.files.atKey (key s) .nil = .held g
def Rr (w : World) (m : M) (s : ByteArray) (e : Ending) (w' : World) : Prop := Below w.heap.size w w' ∧
    ((∃ g a n c, Rb m s g ∧ g ∈ m.ids ∧ e = .returned (.tuple #[.slice a n c, .int .i64 0]) ∧ Has w' a n c (m.ct g).1 ∧ ∀ k, (Value.slice a n c).ownBlock = some k → w.heap.size ≤ k) ∨
      ∃ r, r ≠ 0 ∧ e = .returned (.tuple #[.slice none 0 0, .int .i64 r]) ∧ ∀ g, ¬ Rb m s g)
set_option maxHeartbeats 2000000 in
set_option maxRecDepth 100000 in
theorem read_any (h : Disk w d m T) (hm : Sm m) (s : ByteArray) : Calls Try.prog 20 #[ptr d, .string s] w (Rr w m s) := by
  obtain ⟨bf, bs, V, h⟩ := h
  have N := hide (nms_one w s)
  have A := hide (h.alloc (.cells #[.string s] 9))
  have bA : Hid (Below w.heap.size w (w.alloc (.cells #[.string s] 9))) := (Below.refl _ w).alloc (Nat.le_refl _) _
  obtain ⟨wA, hwA⟩ : ∃ wA, w.alloc (.cells #[.string s] 9) = wA := ⟨_, rfl⟩
  rw [hwA] at A N bA
  clear h
  cases hk : nameOk s with
  | false =>
    go_enter Try.func20, Try.ntmps20
    go_wp2_with fail
    refine (check_any A.out N.out).mono ?_
    rintro e w' ⟨rfl, hw⟩; replace hw := hw.symm; subst hw
    simp only [all1, hk, if_false, Bool.false_eq_true]
    clear hwA
    replace hk := hide hk
    go_wp2_with fail
    go_ret2
    exact ⟨bA.out, .inr ⟨2, by decide, rfl, fun g hg => by have := hg.1; rw [hk.out] at this; cases this⟩⟩
  | true =>
    have hs := maxLen_of_name hk
    obtain ⟨c0, c1, c2, c3, c4, c5, c6⟩ := A.out.cs
    cases hg : m.gone with
    | true =>
      rw [hg] at c1
      go_enter Try.func20, Try.ntmps20
      go_wp2_with fail
      refine (check_any A.out N.out).mono ?_
      rintro e w' ⟨rfl, hw⟩; replace hw := hw.symm; subst hw
      simp only [all1, hk, if_true]
      clear hwA
      replace hg := hide hg
      replace hk := hide hk
      go_wp2_with fail
      go_ret2
      exact ⟨bA.out, .inr ⟨8, by decide, rfl, fun g h => by have := h.2.1; rw [hg.out] at this; cases this⟩⟩
    | false =>
      rw [hg] at c1
      go_enter Try.func20, Try.ntmps20
      go_wp2_with fail
      refine (check_any A.out N.out).mono ?_
      rintro e w' ⟨rfl, hw⟩; replace hw := hw.symm; subst hw
      simp only [all1, hk, if_true]
      clear hwA
      replace hg := hide hg
      replace hk := hide hk
      go_wp2_with fail
      refine (find_any A.out hs).mono ?_
      rintro e w2 ⟨hw2, hc⟩
      replace hw2 := hw2.symm
      subst hw2
      rcases hc with ⟨ha, rfl⟩ | ⟨g, ha, hgi, rfl⟩
      · replace ha := hide ha
        go_wp2_with fail
        go_ret2
        exact ⟨bA.out, .inr ⟨5, by decide, rfl, fun g h => by have := h.2.2; rw [ha.out] at this; cases this⟩⟩
      · replace ha := hide ha
        obtain ⟨a, c, e1, H1⟩ := A.out.has1 hgi
        obtain ⟨f0, f1⟩ := A.out.fc hgi
        rw [e1] at f0
        have C := hide (clone_any wA a _ c _ H1 (by have := (hm.hc g hgi).1; omega))
        clear H1 e1 f1 A N
        go_wp2_with fail
        refine C.out.mono ?_
        rintro e w2 ⟨a2, n2, c2, rfl, H2, B2, O2⟩
        replace H2 := hide H2
        have nb : Hid (∀ k, (Value.slice a2 n2 c2).ownBlock = some k → w.heap.size ≤ k) := fun k hk => Nat.le_trans bA.out.size (O2.lt k hk).1
        replace B2 := hide B2
        clear O2 C
        go_wp2_with fail
        go_ret2
        exact ⟨bA.out.trans (B2.out.mono bA.out.size), .inl ⟨g, a2, n2, c2, ⟨hk.out, hg.out, ha.out⟩, hgi, rfl, H2.out, nb.out⟩⟩
end
end Go.Proofs.Ytgbijkdfhkkieaa
