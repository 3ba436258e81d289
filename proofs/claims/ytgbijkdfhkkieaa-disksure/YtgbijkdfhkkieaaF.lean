/-
  drop, Remove, Create, Rename.
-/
import Derived.Test.YtgbijkdfhkkieaaE
namespace Go.Proofs.Ytgbijkdfhkkieaa
open Go.RowKit Go.Maps Go.Lib
set_option linter.unusedVariables false
set_option linter.unusedSimpArgs false

/-- Numbers that are small enough to be reckoned with. -/
structure Sm (m : M) : Prop where
  hl : m.left ≤ 9223372036854775807
  hs : 0 ≤ m.steps ∧ m.steps ≤ 1099511627776
  hu : -1099511627776 ≤ m.used ∧ m.used ≤ 1099511627776
  hn : m.n ≤ 1073741824
  hc : ∀ g ∈ m.ids, (m.ct g).1.length ≤ 1073741824 ∧ (m.ct g).2.length ≤ 1073741824
theorem Sm.pw {m : M} (h : Sm m) : Sm (pw m) := by
  obtain ⟨e1, e2, e3, e4, e5, e6, e7, e8, e9⟩ := pw_same m
  exact ⟨by rw [e6]; exact h.hl, by rw [e7]; exact h.hs, by rw [e9]; exact h.hu, by rw [e5]; exact h.hn, by rw [e3, e4]; exact h.hc⟩
theorem sec_le {n : Nat} (h : n ≤ 1073741824) : sec n ≤ 4194304 := by unfold sec; omega
theorem wrapi (x : Int) (h : -9223372036854775808 ≤ x ∧ x ≤ 9223372036854775807) : IntKind.i64.wrap x = x := by
  rw [IntKind.wrap_i64]; omega

section
variable {w w' : World} {d bf bs : Nat} {m : M} {T : Nat → Prop} {V : Nat → Value × Value}
theorem Dk.toT (h : Dk w d m T bf bs V) {a b : World} (hb : But (fun x => x = d) a b) : But T a b := hb.mono (fun k e => by rw [e]; exact h.td)
set_option maxHeartbeats 2000000 in
theorem drop_any (h : Dk w d m T bf bs V) (hm : Sm m) {s : ByteArray} (hs : s.size ≤ maxLen) : Calls Try.prog 41 #[ptr d, .string s] w fun e w' => e = .returned (.tuple #[]) ∧
    ((m.files.atKey (key s) .nil = .nil ∧ w' = w) ∨ ∃ g, m.files.atKey (key s) .nil = .held g ∧ Dk w' d { m with used := m.used - (sec (m.ct g).1.length : Int), files := m.files.del (key s) } T bf bs V ∧ But T w w') := by
  obtain ⟨c0, c1, c2, c3, c4, c5, c6⟩ := h.cs
  rcases look h.mf hs with ⟨e, r⟩ | ⟨g, e, r⟩
  · clear h
    replace e := hide e
    go_enter Try.func41, Try.ntmps41
    go_wp2
    go_end0
    exact ⟨rfl, .inl ⟨e.out, rfl⟩⟩
  · have hg := h.vf _ g e
    obtain ⟨S, hS⟩ : ∃ S, S = sec (m.ct g).1.length := ⟨_, rfl⟩
    have hS4 : S ≤ 4194304 := by rw [hS]; exact sec_le (hm.hc g hg).1
    have f6 := h.dk.fz 6
    have PP : ∀ wx : World, wx = w.drew → Calls Try.prog 37 #[ptr g] wx fun e w' => e = .returned (.int .i64 (S : Int)) ∧ w' = wx := by
      rintro wx rfl
      rw [hS]
      exact fsec_any h.drew hg (by have := (hm.hc g hg).1; omega)
    have D1 := h.disk (m' := { m with used := m.used - (S : Int) }) (but_setCell w d 6 (.int .i64 (m.used - (S : Int)))) (h.dk.set1 6 (.int .i64 (m.used - (S : Int)))) rfl rfl rfl rfl rfl
    have b1 := hide (h.toT (but_setCell w d 6 (.int .i64 (m.used - (S : Int)))))
    have hw : IntKind.i64.wrap (m.used - (S : Int)) = m.used - (S : Int) := wrapi _ (by have := hm.hu; omega)
    replace h := hide h
    replace hS := hide hS
    replace e := hide e
    go_enter Try.func41, Try.ntmps41
    go_wp2_with fail
    refine reg41_2 w d g m.used (S : Int) c6 f6 hw PP _ _ _ _ _ _ _ _ _ _ _ _ _ _ _ _ _ _ _ _ _ _ _ _ _ _ ?_
    rintro w2 hw2
    have D2 := hide (D1.drew)
    have b2 := hide (b1.out.drew)
    rw [← hw2] at D2 b2
    obtain ⟨q0, q1, q2, q3, q4, q5, q6⟩ := D2.out.cs
    have own := hide D2.out.mf
    clear hw2 D1 b1 c0 c1 c2 c3 c4 c5 c6 f6 PP r
    go_wp2_with (at_delete; refine wpList_delete_own _ rfl _ _ 62 9 rfl 73 law Try.underlying62 _ bf m.n m.files rfl own.out _ _ rfl (hkey hs) ?_; intro w3 own3 turn3)
    have D3 := hide (D2.out.turn (D' := m.files.del (key s)) (n' := m.n) ((But.refl (fun x => x = bf) w2).grown turn3.grown (fun k e _ => by cases e; rfl)) own3 (Nat.le_refl _) (vdel D2.out.vf _))
    have b3 := hide (b2.out.grown turn3.grown (fun k e _ => by cases e; exact h.out.tf))
    clear own3 turn3
    go_end0
    exact ⟨rfl, .inr ⟨g, e.out, by rw [← hS.out]; exact D3.out, b3.out⟩⟩
/-- How a call on a disk ends: with an error's number, on a disk. -/
def Res (w : World) (d : Nat) (T : Nat → Prop) (Φ : Int → M → Prop) (e : Ending) (w' : World) : Prop := ∃ r m' T', e = .returned (.int .i64 r) ∧ Disk w' d m' T' ∧ Up w T w' T' ∧ Φ r m'
/-- .. for a file that is there, or refused. -/
def Fs (m : M) (s : ByteArray) (Φ : Nat → Int → M → Prop) (r : Int) (m' : M) : Prop := (∃ g, Fnd m s g ∧ g ∈ m.ids ∧ Φ g r m') ∨ (r ≠ 0 ∧ (∀ g, ¬ Fnd m s g) ∧ (m' = m ∨ m' = pw m))
def rmv (m : M) (s : ByteArray) (g : Nat) : M := dn { pw m with used := (pw m).used - (sec ((pw m).ct g).1.length : Int), files := (pw m).files.del (key s) }
set_option maxHeartbeats 2000000 in
theorem remove_any (h : Disk w d m T) (hm : Sm m) (s : ByteArray) : Calls Try.prog 11 #[ptr d, .string s] w (Res w d T (Fs m s fun g r m' => r = 0 ∧ m' = rmv m s g)) := by
  obtain ⟨bf, bs, V, h⟩ := h
  have hp := hide hm.pw
  go_enter Try.func11, Try.ntmps11
  go_wp2_with fail
  refine (beginWith_any h s).mono ?_
  rintro e w1 ⟨b1, ⟨g, hF, hg, rfl, D1⟩ | ⟨r, hr, rfl, hF, m', hm', D1⟩⟩
  · replace b1 := hide (h.toT b1)
    replace hF := hide hF
    go_wp2_with fail
    refine (drop_any D1 hp.out (maxLen_of_name hF.out.1)).mono ?_
    rintro e w2 ⟨rfl, ⟨ha, _⟩ | ⟨g', ha, D2, b2⟩⟩
    · rw [(pw_same m).1, hF.out.2.2] at ha
      cases ha
    · rw [(pw_same m).1, hF.out.2.2] at ha
      cases ha
      replace b2 := hide (b1.out.trans b2 (fun _ _ e => e))
      clear D1
      go_wp2_with fail
      refine (done_any D2 hp.out.hl hp.out.hs).mono ?_
      rintro e w3 ⟨rfl, D3, b3⟩
      replace b3 := hide (b2.out.trans (h.toT b3) (fun _ _ e => e))
      replace D3 := hide D3
      clear D2
      go_wp2_with fail
      go_ret
      refine ⟨0, _, T, rfl, ⟨bf, bs, V, D3.out⟩, up_same b3.out, .inl ⟨g, hF.out, hg, rfl, rfl⟩⟩
  · replace b1 := hide (h.toT b1)
    have hr1 : (r != 0) = true := by simpa using hr
    have hr2 : (r == 0) = false := by simpa using hr
    replace hF := hide hF
    replace D1 := hide D1
    replace hm' := hide hm'
    replace hr := hide hr
    go_wp2_with fail
    go_ret
    exact ⟨r, m', T, rfl, ⟨bf, bs, V, D1.out⟩, up_same b1.out, .inr ⟨hr.out, hF.out, hm'.out⟩⟩
theorem has_ne_of_row {k : Nat} {v : Value} {n : Nat} {l : List Int} (o : w.ownsRow 0 5 1 v n (u8s l)) {g : Nat} {xs : Array Value} (hg : Bx w g 82 xs) (hk : v.ownBlock = some k) : k ≠ g := by
  rintro rfl
  obtain ⟨cur, hc⟩ := row_typ o hk
  have := (hc.typ hg).1
  cases this
/-- A cell of a file's block is stored. -/
theorem file_set (w : World) {g : Nat} {v1 v2 : Value} (h : Bx w g 82 #[v1, v2]) (u : Value) : Bx (w.setCell ⟨g, 0, none⟩ u) g 82 #[u, v2] ∧ Bx (w.setCell ⟨g, 1, none⟩ u) g 82 #[v1, u] := ⟨h.set1 0 u, h.set1 1 u⟩
def syn (m : M) (g : Nat) : M := dn { pw m with ct := upd (pw m).ct g (((pw m).ct g).1, ((pw m).ct g).1) }
set_option maxHeartbeats 2000000 in
set_option maxRecDepth 100000 in
theorem sync_any (h : Disk w d m T) (hm : Sm m) (s : ByteArray) : Calls Try.prog 14 #[ptr d, .string s] w (Res w d T (Fs m s fun g r m' => r = 0 ∧ m' = syn m g)) := by
  obtain ⟨bf, bs, V, h⟩ := h
  have hp := hide hm.pw
  go_enter Try.func14, Try.ntmps14
  go_wp2_with fail
  refine (beginWith_any h s).mono ?_
  rintro e w1 ⟨b1, ⟨g, hF, hg, rfl, D1⟩ | ⟨r, hr, rfl, hF, m', hm', D1⟩⟩
  · replace b1 := hide (h.toT b1)
    replace hF := hide hF
    have hg1 : g ∈ (pw m).ids := by rw [(pw_same m).2.2.1]; exact hg
    obtain ⟨a, c, e1, H1⟩ := D1.has1 hg1
    obtain ⟨c0, c1⟩ := D1.fc hg1
    rw [e1] at c0
    have C := hide (clone_any w1 a _ c _ H1 (by have := (hp.out.hc g hg1).1; omega))
    replace H1 := hide H1
    replace e1 := hide e1
    replace D1 := hide D1
    go_wp2_with fail
    refine C.out.mono ?_
    rintro e w2 ⟨a2, n2, c2, rfl, H2, B2, O2⟩
    have hn2 : ((pw m).ct g).1.length = n2 := H2.hlen
    have D2 := D1.out.below B2
    have X2 := (D2.fl g hg1).1
    have f1 := X2.fz 1
    have q1 : w2.cell? ⟨g, 1, none⟩ = some (V g).2 := X2.cell 1
    have nb : ∀ k, (Value.slice a2 n2 c2).ownBlock = some k → w1.heap.size ≤ k := fun k hk => (O2.lt k hk).1
    have O3 : (w2.setCell ⟨g, 1, none⟩ (.slice a2 n2 c2)).ownsRow 0 5 1 (.slice a2 n2 c2) ((pw m).ct g).1.length (u8s ((pw m).ct g).1) := by
      rw [hn2]
      refine owns_of_block (owns_mono O2 (Nat.zero_le _)) (fun k hk => Below.heap_setCell w2 _ _ k (fun e => ?_))
      have h1 := nb k hk
      have h2 := (D1.out.fl g hg1).1.lt
      have h3 : k = g := e
      omega
    have D3 := hide (D1.out.file hg1 (w' := w2.setCell ⟨g, 1, none⟩ (.slice a2 n2 c2)) (v1 := (V g).1) (v2 := .slice a2 n2 c2) (l1 := ((pw m).ct g).1) (l2 := ((pw m).ct g).1)
      (((But.of_below B2 _).trans (but_setCell w2 g 1 _) (fun _ _ e => .inl e)))
      ((file_set w2 X2 _).2) (owns_of_block (D2.fl g hg1).2.1 (fun k hk => Below.heap_setCell w2 _ _ k (fun e => has_ne_of_row (D2.fl g hg1).2.1 X2 hk e)))
      O3 (D1.out.byt g hg1).1 (D1.out.byt g hg1).1 (fun k hk => .inl hk) (fun k hk => .inr (nb k hk)) (fun k hk hk2 => by
        have h1 := nb k hk2
        have h2 := ((D1.out.fl g hg1).2.1.lt k hk).2
        omega))
    have b3 : Hid (But T w (w2.setCell ⟨g, 1, none⟩ (.slice a2 n2 c2))) := (b1.out.trans (But.of_below B2 T) (fun _ _ e => e)).setCell (fun _ => (D1.out.ti g hg1).1) _
    have own3 : Hid (∀ x, nw T w1 (w2.setCell ⟨g, 1, none⟩ (.slice a2 n2 c2)) x → T x ∨ w.heap.size ≤ x) := fun x hx => by
      rcases hx with hx | hx
      · exact .inl hx
      · exact .inr (Nat.le_trans b1.out.size hx.1)
    clear C H2 B2 O2 D2 O3 nb H1 e1 D1 X2 hn2 c0 c1
    go_wp2_with fail
    refine (done_any D3.out hp.out.hl hp.out.hs).mono ?_
    rintro e w4 ⟨rfl, D4, b4⟩
    replace b4 := hide (b3.out.trans (h.toT b4) (fun _ _ e => e))
    replace D4 := hide D4
    clear D3
    go_wp2_with fail
    go_ret
    refine ⟨0, _, _, rfl, ⟨bf, bs, _, D4.out⟩, ⟨b4.out, own3.out⟩, .inl ⟨g, hF.out, hg, rfl, rfl⟩⟩
  · replace b1 := hide (h.toT b1)
    have hr1 : (r != 0) = true := by simpa using hr
    have hr2 : (r == 0) = false := by simpa using hr
    replace hF := hide hF
    replace D1 := hide D1
    replace hm' := hide hm'
    replace hr := hide hr
    go_wp2_with fail
    go_ret
    exact ⟨r, m', T, rfl, ⟨bf, bs, V, D1.out⟩, up_same b1.out, .inr ⟨hr.out, hF.out, hm'.out⟩⟩
end
end Go.Proofs.Ytgbijkdfhkkieaa
