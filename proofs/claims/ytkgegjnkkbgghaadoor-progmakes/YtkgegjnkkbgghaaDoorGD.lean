/-
  shape of any pattern; Check, by the reference.
-/
import Derived.Test.YtkgegjnkkbgghaaDoorGC
namespace Go.Proofs.YtkgegjnkkbgghaaDoor
open Go.RowKit
set_option linter.unusedVariables false
set_option linter.unusedSimpArgs false

set_option maxHeartbeats 4000000 in
set_option maxRecDepth 100000 in
theorem ys1e  (a : Option Addr) (c : Nat) (w : World) : Calls Tryd.prog 41 #[reV 1 noSet (.slice a 0 c) 0 0] w fun e w' => e = .returned (.bool true) ∧ Below w.heap.size w w' := by
  have H := St.start Nope w
  have ky := fun w => eql24_yes w
  have kg := guard25
  go_enter Tryd.func41, Tryd.ntmps41
  go_wp2_with (first | ((with_reducible refine at_box 27 ?_); refine wl_box28 H rfl ?_; clear H; intro g w1 H q1 q2; have c0 := H.cell 0 0 rfl (v := .int .i64 (1)) rfl; have c1 := H.cell 0 1 rfl (v := .int .u64 (noSet).a) rfl; have c2 := H.cell 0 2 rfl (v := .int .u64 (noSet).b) rfl; have c3 := H.cell 0 3 rfl (v := .int .u64 (noSet).c) rfl; have c4 := H.cell 0 4 rfl (v := .int .u64 (noSet).d) rfl; have c5 := H.cell 0 5 rfl (v := .slice a 0 c) rfl; have c6 := H.cell 0 6 rfl (v := .int .i64 (0)) rfl; have c7 := H.cell 0 7 rfl (v := .int .i64 (0)) rfl; try simp only [noSet] at c1 c2 c3 c4))
  have HB := hide H.below
  replace H := hide H
  go_loop [5, 6] (fun ov iv => ov = .bool true ∧ iv = .int .i64 0) (fun _ _ => 0)
  case atStart => exact ⟨rfl, rfl⟩
  case round =>
    obtain ⟨rfl, rfl⟩ := hrel
    go_wp2_with fail
    go_ret
    exact ⟨rfl, HB.out⟩
set_option maxHeartbeats 4000000 in
set_option maxRecDepth 100000 in
theorem ys1n (s : S4) (hs : s ≠ noSet) (a : Option Addr) (c : Nat) (w : World) : Calls Tryd.prog 41 #[reV 1 s (.slice a 0 c) 0 0] w fun e w' => e = .returned (.bool true) ∧ Below w.heap.size w w' := by
  have H := St.start Nope w
  have ks := fun w => eql24_no hs w
  have kg := guard25
  go_enter Tryd.func41, Tryd.ntmps41
  go_wp2_with (first | ((with_reducible refine at_box 27 ?_); refine wl_box28 H rfl ?_; clear H; intro g w1 H q1 q2; have c0 := H.cell 0 0 rfl (v := .int .i64 (1)) rfl; have c1 := H.cell 0 1 rfl (v := .int .u64 (s).a) rfl; have c2 := H.cell 0 2 rfl (v := .int .u64 (s).b) rfl; have c3 := H.cell 0 3 rfl (v := .int .u64 (s).c) rfl; have c4 := H.cell 0 4 rfl (v := .int .u64 (s).d) rfl; have c5 := H.cell 0 5 rfl (v := .slice a 0 c) rfl; have c6 := H.cell 0 6 rfl (v := .int .i64 (0)) rfl; have c7 := H.cell 0 7 rfl (v := .int .i64 (0)) rfl; try simp only [noSet] at c1 c2 c3 c4))
  have HB := hide H.below
  replace H := hide H
  go_loop [5, 6] (fun ov iv => ov = .bool true ∧ iv = .int .i64 0) (fun _ _ => 0)
  case atStart => exact ⟨rfl, rfl⟩
  case round =>
    obtain ⟨rfl, rfl⟩ := hrel
    go_wp2_with fail
    go_ret
    exact ⟨rfl, HB.out⟩
set_option maxHeartbeats 4000000 in
set_option maxRecDepth 100000 in
theorem ys4a (mn : Int) (hmn : ¬ mn = 0) (h0 : 0 ≤ mn) (h1 : mn ≤ 64) (f : Fo) (P : Nat → Prop) (a : Option Addr) (c n : Nat) (w : World) (hn : f.len = n) (hn2 : n ≤ 10000) (hz : n = 1) (K : ShK (⟨4, noSet, mn, (-1)⟩, f) P a c w) : Calls Tryd.prog 41 #[reV (4) (noSet) (.slice a n c) (mn) ((-1))] w fun e w' => (e = .returned (.bool true) ∧ f.fit ∨ e = .returned (.bool false) ∧ ¬ f.fit) ∧ Below w.heap.size w w' := by
  subst hz
  have H := St.start Nope w
  have ky := fun w => eql24_yes w
  have kg := guard25
  have mnb : (mn == 0) = false := by simpa using hmn
  have x3 : decide ((0 : Int) ≤ mn) = true := by simp; omega
  have x4 : decide (mn ≤ (64 : Int)) = true := by simp; omega
  have KID := hide (fun w' hb i (hi : i < 1) => K.kid w' hb i (by rw [← hn] at hi; exact hi))
  have hfl := hide (fitTo_len f)
  have hff := hide (fit_fitTo f)
  rw [hn] at hfl hff
  replace hn := hide hn
  replace K := hide K
  go_enter Tryd.func41, Tryd.ntmps41
  go_wp2_with (first | ((with_reducible refine at_box 27 ?_); refine wl_box28 H rfl ?_; clear H; intro g w1 H q1 q2; have c0 := H.cell 0 0 rfl (v := .int .i64 (4)) rfl; have c1 := H.cell 0 1 rfl (v := .int .u64 (noSet).a) rfl; have c2 := H.cell 0 2 rfl (v := .int .u64 (noSet).b) rfl; have c3 := H.cell 0 3 rfl (v := .int .u64 (noSet).c) rfl; have c4 := H.cell 0 4 rfl (v := .int .u64 (noSet).d) rfl; have c5 := H.cell 0 5 rfl (v := .slice a 1 c) rfl; have c6 := H.cell 0 6 rfl (v := .int .i64 (mn)) rfl; have c7 := H.cell 0 7 rfl (v := .int .i64 ((-1))) rfl; try simp only [noSet] at c1 c2 c3 c4))
  clear c0 c1 c2 c3 c4 c5 c6 c7
  replace H := hide H
  go_loopw [5, 6] (fun ov iv wr => ∃ (i : Nat) (o : Bool), ov = .bool o ∧ i ≤ 1 ∧ iv = .int .i64 (i : Int) ∧ Hid ((o = true ∧ f.fitTo i) ∨ (o = false ∧ ¬ f.fitTo i)) ∧ Hid (St Nope w wr [(true, g, 27, reA (4) (noSet) (.slice a 1 c) (mn) ((-1)))])) (fun _ iv _ => 1 - (RowKit.intOf iv).toNat)
  case atStart => exact ⟨0, true, rfl, Nat.zero_le _, rfl, .inl ⟨rfl, trivial⟩, H⟩
  case round =>
    obtain ⟨i, o, rfl, hi, rfl, ho, Hr⟩ := hrel
    have c5 := Hr.out.cell 0 5 rfl (v := .slice a 1 c) rfl
    have fin := hide Hr.out.below
    by_cases hlt : i < 1
    case neg =>
      obtain rfl : i = 1 := by omega
      have j0 : True := trivial
      go_wp2_with fail
      go_ret
      refine ⟨?_, fin.out⟩
      rcases ho.out with ⟨rfl, h⟩ | ⟨rfl, h⟩
      · exact .inl ⟨rfl, hfl.out.1 h⟩
      · exact .inr ⟨rfl, fun hf => h (hfl.out.2 hf)⟩
    have j1 : (i : Int) < 1 := by omega
    cases o with
    | false =>
      have hno : ¬ f.fitTo i := by
        rcases ho.out with ⟨h, _⟩ | ⟨_, h⟩
        · cases h
        · exact h
      have hno2 := hide (fun hf => hno (hff.out hf i hi))
      clear hno
      go_wp2_with fail
      go_ret
      exact ⟨.inr ⟨rfl, hno2.out⟩, fin.out⟩
    | true =>
      have hyes : f.fitTo i := by
        rcases ho.out with ⟨_, h⟩ | ⟨h, _⟩
        · exact h
        · cases h
      obtain ⟨b, u, rfl, hld, CK⟩ := KID.out wr Hr.out.below i hlt
      have rel2 : Hid (∀ o : Bool, o = shB (f.nth i) → (o = true ∧ f.fitTo (i + 1)) ∨ (o = false ∧ ¬ f.fitTo (i + 1))) := fun o ho => by
        by_cases hk : fitT (f.nth i)
        · exact .inl ⟨by rw [ho, shB_yes hk], hyes, hk⟩
        · exact .inr ⟨by rw [ho, shB_no hk], fun h => hk h.2⟩
      have hltH := hide hlt
      replace hld := hide hld
      replace CK := hide CK
      replace hyes := hide hyes
      have hnb : True := trivial
      go_wp2_with (first | ((with_reducible refine at_load 27 ?_); refine wl_loadA 27 rfl hld.out ?_))
      refine CK.out.mono ?_
      rintro e w4 ⟨rfl, B4⟩
      have H4 := hide (Hr.out.call B4 (Nat.le_refl _))
      have rel3 := hide (rel2.out _ rfl)
      clear B4 CK hld rel2
      generalize shB _ = o4 at rel3 ⊢
      go_wp2_with fail
      go_roundw
      case rel => exact ⟨i + 1, o4, rfl, hltH.out, by go_num, rel3.out, H4⟩
      case measure => have := hltH.out; simp [RowKit.intOf]; omega
set_option maxHeartbeats 4000000 in
set_option maxRecDepth 100000 in
theorem ys4b (mn mx : Int) (hmn : ¬ mn = 0) (h0 : 0 ≤ mn) (h1 : mn ≤ 64) (h2 : mx ≤ 64) (h3 : ¬ mx = -1) (h4 : mn ≤ mx) (f : Fo) (P : Nat → Prop) (a : Option Addr) (c n : Nat) (w : World) (hn : f.len = n) (hn2 : n ≤ 10000) (hz : n = 1) (K : ShK (⟨4, noSet, mn, mx⟩, f) P a c w) : Calls Tryd.prog 41 #[reV (4) (noSet) (.slice a n c) (mn) (mx)] w fun e w' => (e = .returned (.bool true) ∧ f.fit ∨ e = .returned (.bool false) ∧ ¬ f.fit) ∧ Below w.heap.size w w' := by
  subst hz
  have H := St.start Nope w
  have ky := fun w => eql24_yes w
  have kg := guard25
  have mnb : (mn == 0) = false := by simpa using hmn
  have h3b : (mx == -1) = false := by simpa using h3
  have x6 : decide (mn ≤ mx) = true := by simpa using h4
  have x3 : decide ((0 : Int) ≤ mn) = true := by simp; omega
  have x4 : decide (mn ≤ (64 : Int)) = true := by simp; omega
  have x5 : decide (mx ≤ (64 : Int)) = true := by simp; omega
  have KID := hide (fun w' hb i (hi : i < 1) => K.kid w' hb i (by rw [← hn] at hi; exact hi))
  have hfl := hide (fitTo_len f)
  have hff := hide (fit_fitTo f)
  rw [hn] at hfl hff
  replace hn := hide hn
  replace K := hide K
  go_enter Tryd.func41, Tryd.ntmps41
  go_wp2_with (first | ((with_reducible refine at_box 27 ?_); refine wl_box28 H rfl ?_; clear H; intro g w1 H q1 q2; have c0 := H.cell 0 0 rfl (v := .int .i64 (4)) rfl; have c1 := H.cell 0 1 rfl (v := .int .u64 (noSet).a) rfl; have c2 := H.cell 0 2 rfl (v := .int .u64 (noSet).b) rfl; have c3 := H.cell 0 3 rfl (v := .int .u64 (noSet).c) rfl; have c4 := H.cell 0 4 rfl (v := .int .u64 (noSet).d) rfl; have c5 := H.cell 0 5 rfl (v := .slice a 1 c) rfl; have c6 := H.cell 0 6 rfl (v := .int .i64 (mn)) rfl; have c7 := H.cell 0 7 rfl (v := .int .i64 (mx)) rfl; try simp only [noSet] at c1 c2 c3 c4))
  clear c0 c1 c2 c3 c4 c5 c6 c7
  replace H := hide H
  go_loopw [5, 6] (fun ov iv wr => ∃ (i : Nat) (o : Bool), ov = .bool o ∧ i ≤ 1 ∧ iv = .int .i64 (i : Int) ∧ Hid ((o = true ∧ f.fitTo i) ∨ (o = false ∧ ¬ f.fitTo i)) ∧ Hid (St Nope w wr [(true, g, 27, reA (4) (noSet) (.slice a 1 c) (mn) (mx))])) (fun _ iv _ => 1 - (RowKit.intOf iv).toNat)
  case atStart => exact ⟨0, true, rfl, Nat.zero_le _, rfl, .inl ⟨rfl, trivial⟩, H⟩
  case round =>
    obtain ⟨i, o, rfl, hi, rfl, ho, Hr⟩ := hrel
    have c5 := Hr.out.cell 0 5 rfl (v := .slice a 1 c) rfl
    have fin := hide Hr.out.below
    by_cases hlt : i < 1
    case neg =>
      obtain rfl : i = 1 := by omega
      have j0 : True := trivial
      go_wp2_with fail
      go_ret
      refine ⟨?_, fin.out⟩
      rcases ho.out with ⟨rfl, h⟩ | ⟨rfl, h⟩
      · exact .inl ⟨rfl, hfl.out.1 h⟩
      · exact .inr ⟨rfl, fun hf => h (hfl.out.2 hf)⟩
    have j1 : (i : Int) < 1 := by omega
    cases o with
    | false =>
      have hno : ¬ f.fitTo i := by
        rcases ho.out with ⟨h, _⟩ | ⟨_, h⟩
        · cases h
        · exact h
      have hno2 := hide (fun hf => hno (hff.out hf i hi))
      clear hno
      go_wp2_with fail
      go_ret
      exact ⟨.inr ⟨rfl, hno2.out⟩, fin.out⟩
    | true =>
      have hyes : f.fitTo i := by
        rcases ho.out with ⟨_, h⟩ | ⟨h, _⟩
        · exact h
        · cases h
      obtain ⟨b, u, rfl, hld, CK⟩ := KID.out wr Hr.out.below i hlt
      have rel2 : Hid (∀ o : Bool, o = shB (f.nth i) → (o = true ∧ f.fitTo (i + 1)) ∨ (o = false ∧ ¬ f.fitTo (i + 1))) := fun o ho => by
        by_cases hk : fitT (f.nth i)
        · exact .inl ⟨by rw [ho, shB_yes hk], hyes, hk⟩
        · exact .inr ⟨by rw [ho, shB_no hk], fun h => hk h.2⟩
      have hltH := hide hlt
      replace hld := hide hld
      replace CK := hide CK
      replace hyes := hide hyes
      have hnb : True := trivial
      go_wp2_with (first | ((with_reducible refine at_load 27 ?_); refine wl_loadA 27 rfl hld.out ?_))
      refine CK.out.mono ?_
      rintro e w4 ⟨rfl, B4⟩
      have H4 := hide (Hr.out.call B4 (Nat.le_refl _))
      have rel3 := hide (rel2.out _ rfl)
      clear B4 CK hld rel2
      generalize shB _ = o4 at rel3 ⊢
      go_wp2_with fail
      go_roundw
      case rel => exact ⟨i + 1, o4, rfl, hltH.out, by go_num, rel3.out, H4⟩
      case measure => have := hltH.out; simp [RowKit.intOf]; omega
set_option maxHeartbeats 4000000 in
set_option maxRecDepth 100000 in
theorem ys4c  (f : Fo) (P : Nat → Prop) (a : Option Addr) (c n : Nat) (w : World) (hn : f.len = n) (hn2 : n ≤ 10000) (hz : n = 1) (K : ShK (⟨4, noSet, 0, (-1)⟩, f) P a c w) : Calls Tryd.prog 41 #[reV (4) (noSet) (.slice a n c) (0) ((-1))] w fun e w' => (e = .returned (.bool true) ∧ f.fit ∨ e = .returned (.bool false) ∧ ¬ f.fit) ∧ Below w.heap.size w w' := by
  subst hz
  have H := St.start Nope w
  have ky := fun w => eql24_yes w
  have kg := guard25

  have KID := hide (fun w' hb i (hi : i < 1) => K.kid w' hb i (by rw [← hn] at hi; exact hi))
  have hfl := hide (fitTo_len f)
  have hff := hide (fit_fitTo f)
  rw [hn] at hfl hff
  replace hn := hide hn
  replace K := hide K
  go_enter Tryd.func41, Tryd.ntmps41
  go_wp2_with (first | ((with_reducible refine at_box 27 ?_); refine wl_box28 H rfl ?_; clear H; intro g w1 H q1 q2; have c0 := H.cell 0 0 rfl (v := .int .i64 (4)) rfl; have c1 := H.cell 0 1 rfl (v := .int .u64 (noSet).a) rfl; have c2 := H.cell 0 2 rfl (v := .int .u64 (noSet).b) rfl; have c3 := H.cell 0 3 rfl (v := .int .u64 (noSet).c) rfl; have c4 := H.cell 0 4 rfl (v := .int .u64 (noSet).d) rfl; have c5 := H.cell 0 5 rfl (v := .slice a 1 c) rfl; have c6 := H.cell 0 6 rfl (v := .int .i64 (0)) rfl; have c7 := H.cell 0 7 rfl (v := .int .i64 ((-1))) rfl; try simp only [noSet] at c1 c2 c3 c4))
  clear c0 c1 c2 c3 c4 c5 c6 c7
  replace H := hide H
  go_loopw [5, 6] (fun ov iv wr => ∃ (i : Nat) (o : Bool), ov = .bool o ∧ i ≤ 1 ∧ iv = .int .i64 (i : Int) ∧ Hid ((o = true ∧ f.fitTo i) ∨ (o = false ∧ ¬ f.fitTo i)) ∧ Hid (St Nope w wr [(true, g, 27, reA (4) (noSet) (.slice a 1 c) (0) ((-1)))])) (fun _ iv _ => 1 - (RowKit.intOf iv).toNat)
  case atStart => exact ⟨0, true, rfl, Nat.zero_le _, rfl, .inl ⟨rfl, trivial⟩, H⟩
  case round =>
    obtain ⟨i, o, rfl, hi, rfl, ho, Hr⟩ := hrel
    have c5 := Hr.out.cell 0 5 rfl (v := .slice a 1 c) rfl
    have fin := hide Hr.out.below
    by_cases hlt : i < 1
    case neg =>
      obtain rfl : i = 1 := by omega
      have j0 : True := trivial
      go_wp2_with fail
      go_ret
      refine ⟨?_, fin.out⟩
      rcases ho.out with ⟨rfl, h⟩ | ⟨rfl, h⟩
      · exact .inl ⟨rfl, hfl.out.1 h⟩
      · exact .inr ⟨rfl, fun hf => h (hfl.out.2 hf)⟩
    have j1 : (i : Int) < 1 := by omega
    cases o with
    | false =>
      have hno : ¬ f.fitTo i := by
        rcases ho.out with ⟨h, _⟩ | ⟨_, h⟩
        · cases h
        · exact h
      have hno2 := hide (fun hf => hno (hff.out hf i hi))
      clear hno
      go_wp2_with fail
      go_ret
      exact ⟨.inr ⟨rfl, hno2.out⟩, fin.out⟩
    | true =>
      have hyes : f.fitTo i := by
        rcases ho.out with ⟨_, h⟩ | ⟨h, _⟩
        · exact h
        · cases h
      obtain ⟨b, u, rfl, hld, CK⟩ := KID.out wr Hr.out.below i hlt
      have rel2 : Hid (∀ o : Bool, o = shB (f.nth i) → (o = true ∧ f.fitTo (i + 1)) ∨ (o = false ∧ ¬ f.fitTo (i + 1))) := fun o ho => by
        by_cases hk : fitT (f.nth i)
        · exact .inl ⟨by rw [ho, shB_yes hk], hyes, hk⟩
        · exact .inr ⟨by rw [ho, shB_no hk], fun h => hk h.2⟩
      have hltH := hide hlt
      replace hld := hide hld
      replace CK := hide CK
      replace hyes := hide hyes
      have hnb : True := trivial
      go_wp2_with (first | ((with_reducible refine at_load 27 ?_); refine wl_loadA 27 rfl hld.out ?_))
      refine CK.out.mono ?_
      rintro e w4 ⟨rfl, B4⟩
      have H4 := hide (Hr.out.call B4 (Nat.le_refl _))
      have rel3 := hide (rel2.out _ rfl)
      clear B4 CK hld rel2
      generalize shB _ = o4 at rel3 ⊢
      go_wp2_with fail
      go_roundw
      case rel => exact ⟨i + 1, o4, rfl, hltH.out, by go_num, rel3.out, H4⟩
      case measure => have := hltH.out; simp [RowKit.intOf]; omega
set_option maxHeartbeats 4000000 in
set_option maxRecDepth 100000 in
theorem ys4d  (f : Fo) (P : Nat → Prop) (a : Option Addr) (c n : Nat) (w : World) (hn : f.len = n) (hn2 : n ≤ 10000) (hz : n = 1) (K : ShK (⟨4, noSet, 0, 0⟩, f) P a c w) : Calls Tryd.prog 41 #[reV (4) (noSet) (.slice a n c) (0) (0)] w fun e w' => (e = .returned (.bool true) ∧ f.fit ∨ e = .returned (.bool false) ∧ ¬ f.fit) ∧ Below w.heap.size w w' := by
  subst hz
  have H := St.start Nope w
  have ky := fun w => eql24_yes w
  have kg := guard25

  have KID := hide (fun w' hb i (hi : i < 1) => K.kid w' hb i (by rw [← hn] at hi; exact hi))
  have hfl := hide (fitTo_len f)
  have hff := hide (fit_fitTo f)
  rw [hn] at hfl hff
  replace hn := hide hn
  replace K := hide K
  go_enter Tryd.func41, Tryd.ntmps41
  go_wp2_with (first | ((with_reducible refine at_box 27 ?_); refine wl_box28 H rfl ?_; clear H; intro g w1 H q1 q2; have c0 := H.cell 0 0 rfl (v := .int .i64 (4)) rfl; have c1 := H.cell 0 1 rfl (v := .int .u64 (noSet).a) rfl; have c2 := H.cell 0 2 rfl (v := .int .u64 (noSet).b) rfl; have c3 := H.cell 0 3 rfl (v := .int .u64 (noSet).c) rfl; have c4 := H.cell 0 4 rfl (v := .int .u64 (noSet).d) rfl; have c5 := H.cell 0 5 rfl (v := .slice a 1 c) rfl; have c6 := H.cell 0 6 rfl (v := .int .i64 (0)) rfl; have c7 := H.cell 0 7 rfl (v := .int .i64 (0)) rfl; try simp only [noSet] at c1 c2 c3 c4))
  clear c0 c1 c2 c3 c4 c5 c6 c7
  replace H := hide H
  go_loopw [5, 6] (fun ov iv wr => ∃ (i : Nat) (o : Bool), ov = .bool o ∧ i ≤ 1 ∧ iv = .int .i64 (i : Int) ∧ Hid ((o = true ∧ f.fitTo i) ∨ (o = false ∧ ¬ f.fitTo i)) ∧ Hid (St Nope w wr [(true, g, 27, reA (4) (noSet) (.slice a 1 c) (0) (0))])) (fun _ iv _ => 1 - (RowKit.intOf iv).toNat)
  case atStart => exact ⟨0, true, rfl, Nat.zero_le _, rfl, .inl ⟨rfl, trivial⟩, H⟩
  case round =>
    obtain ⟨i, o, rfl, hi, rfl, ho, Hr⟩ := hrel
    have c5 := Hr.out.cell 0 5 rfl (v := .slice a 1 c) rfl
    have fin := hide Hr.out.below
    by_cases hlt : i < 1
    case neg =>
      obtain rfl : i = 1 := by omega
      have j0 : True := trivial
      go_wp2_with fail
      go_ret
      refine ⟨?_, fin.out⟩
      rcases ho.out with ⟨rfl, h⟩ | ⟨rfl, h⟩
      · exact .inl ⟨rfl, hfl.out.1 h⟩
      · exact .inr ⟨rfl, fun hf => h (hfl.out.2 hf)⟩
    have j1 : (i : Int) < 1 := by omega
    cases o with
    | false =>
      have hno : ¬ f.fitTo i := by
        rcases ho.out with ⟨h, _⟩ | ⟨_, h⟩
        · cases h
        · exact h
      have hno2 := hide (fun hf => hno (hff.out hf i hi))
      clear hno
      go_wp2_with fail
      go_ret
      exact ⟨.inr ⟨rfl, hno2.out⟩, fin.out⟩
    | true =>
      have hyes : f.fitTo i := by
        rcases ho.out with ⟨_, h⟩ | ⟨h, _⟩
        · exact h
        · cases h
      obtain ⟨b, u, rfl, hld, CK⟩ := KID.out wr Hr.out.below i hlt
      have rel2 : Hid (∀ o : Bool, o = shB (f.nth i) → (o = true ∧ f.fitTo (i + 1)) ∨ (o = false ∧ ¬ f.fitTo (i + 1))) := fun o ho => by
        by_cases hk : fitT (f.nth i)
        · exact .inl ⟨by rw [ho, shB_yes hk], hyes, hk⟩
        · exact .inr ⟨by rw [ho, shB_no hk], fun h => hk h.2⟩
      have hltH := hide hlt
      replace hld := hide hld
      replace CK := hide CK
      replace hyes := hide hyes
      have hnb : True := trivial
      go_wp2_with (first | ((with_reducible refine at_load 27 ?_); refine wl_loadA 27 rfl hld.out ?_))
      refine CK.out.mono ?_
      rintro e w4 ⟨rfl, B4⟩
      have H4 := hide (Hr.out.call B4 (Nat.le_refl _))
      have rel3 := hide (rel2.out _ rfl)
      clear B4 CK hld rel2
      generalize shB _ = o4 at rel3 ⊢
      go_wp2_with fail
      go_roundw
      case rel => exact ⟨i + 1, o4, rfl, hltH.out, by go_num, rel3.out, H4⟩
      case measure => have := hltH.out; simp [RowKit.intOf]; omega
set_option maxHeartbeats 4000000 in
set_option maxRecDepth 100000 in
theorem ys4e (mx : Int) (hmx : ¬ mx = 0) (h2 : mx ≤ 64) (h3 : ¬ mx = -1) (h4 : 0 ≤ mx) (f : Fo) (P : Nat → Prop) (a : Option Addr) (c n : Nat) (w : World) (hn : f.len = n) (hn2 : n ≤ 10000) (hz : n = 1) (K : ShK (⟨4, noSet, 0, mx⟩, f) P a c w) : Calls Tryd.prog 41 #[reV (4) (noSet) (.slice a n c) (0) (mx)] w fun e w' => (e = .returned (.bool true) ∧ f.fit ∨ e = .returned (.bool false) ∧ ¬ f.fit) ∧ Below w.heap.size w w' := by
  subst hz
  have H := St.start Nope w
  have ky := fun w => eql24_yes w
  have kg := guard25
  have mxb : (mx == 0) = false := by simpa using hmx
  have h3b : (mx == -1) = false := by simpa using h3
  have x6 : decide ((0 : Int) ≤ mx) = true := by simpa using h4
  have x5 : decide (mx ≤ (64 : Int)) = true := by simp; omega
  have KID := hide (fun w' hb i (hi : i < 1) => K.kid w' hb i (by rw [← hn] at hi; exact hi))
  have hfl := hide (fitTo_len f)
  have hff := hide (fit_fitTo f)
  rw [hn] at hfl hff
  replace hn := hide hn
  replace K := hide K
  go_enter Tryd.func41, Tryd.ntmps41
  go_wp2_with (first | ((with_reducible refine at_box 27 ?_); refine wl_box28 H rfl ?_; clear H; intro g w1 H q1 q2; have c0 := H.cell 0 0 rfl (v := .int .i64 (4)) rfl; have c1 := H.cell 0 1 rfl (v := .int .u64 (noSet).a) rfl; have c2 := H.cell 0 2 rfl (v := .int .u64 (noSet).b) rfl; have c3 := H.cell 0 3 rfl (v := .int .u64 (noSet).c) rfl; have c4 := H.cell 0 4 rfl (v := .int .u64 (noSet).d) rfl; have c5 := H.cell 0 5 rfl (v := .slice a 1 c) rfl; have c6 := H.cell 0 6 rfl (v := .int .i64 (0)) rfl; have c7 := H.cell 0 7 rfl (v := .int .i64 (mx)) rfl; try simp only [noSet] at c1 c2 c3 c4))
  clear c0 c1 c2 c3 c4 c5 c6 c7
  replace H := hide H
  go_loopw [5, 6] (fun ov iv wr => ∃ (i : Nat) (o : Bool), ov = .bool o ∧ i ≤ 1 ∧ iv = .int .i64 (i : Int) ∧ Hid ((o = true ∧ f.fitTo i) ∨ (o = false ∧ ¬ f.fitTo i)) ∧ Hid (St Nope w wr [(true, g, 27, reA (4) (noSet) (.slice a 1 c) (0) (mx))])) (fun _ iv _ => 1 - (RowKit.intOf iv).toNat)
  case atStart => exact ⟨0, true, rfl, Nat.zero_le _, rfl, .inl ⟨rfl, trivial⟩, H⟩
  case round =>
    obtain ⟨i, o, rfl, hi, rfl, ho, Hr⟩ := hrel
    have c5 := Hr.out.cell 0 5 rfl (v := .slice a 1 c) rfl
    have fin := hide Hr.out.below
    by_cases hlt : i < 1
    case neg =>
      obtain rfl : i = 1 := by omega
      have j0 : True := trivial
      go_wp2_with fail
      go_ret
      refine ⟨?_, fin.out⟩
      rcases ho.out with ⟨rfl, h⟩ | ⟨rfl, h⟩
      · exact .inl ⟨rfl, hfl.out.1 h⟩
      · exact .inr ⟨rfl, fun hf => h (hfl.out.2 hf)⟩
    have j1 : (i : Int) < 1 := by omega
    cases o with
    | false =>
      have hno : ¬ f.fitTo i := by
        rcases ho.out with ⟨h, _⟩ | ⟨_, h⟩
        · cases h
        · exact h
      have hno2 := hide (fun hf => hno (hff.out hf i hi))
      clear hno
      go_wp2_with fail
      go_ret
      exact ⟨.inr ⟨rfl, hno2.out⟩, fin.out⟩
    | true =>
      have hyes : f.fitTo i := by
        rcases ho.out with ⟨_, h⟩ | ⟨h, _⟩
        · exact h
        · cases h
      obtain ⟨b, u, rfl, hld, CK⟩ := KID.out wr Hr.out.below i hlt
      have rel2 : Hid (∀ o : Bool, o = shB (f.nth i) → (o = true ∧ f.fitTo (i + 1)) ∨ (o = false ∧ ¬ f.fitTo (i + 1))) := fun o ho => by
        by_cases hk : fitT (f.nth i)
        · exact .inl ⟨by rw [ho, shB_yes hk], hyes, hk⟩
        · exact .inr ⟨by rw [ho, shB_no hk], fun h => hk h.2⟩
      have hltH := hide hlt
      replace hld := hide hld
      replace CK := hide CK
      replace hyes := hide hyes
      have hnb : True := trivial
      go_wp2_with (first | ((with_reducible refine at_load 27 ?_); refine wl_loadA 27 rfl hld.out ?_))
      refine CK.out.mono ?_
      rintro e w4 ⟨rfl, B4⟩
      have H4 := hide (Hr.out.call B4 (Nat.le_refl _))
      have rel3 := hide (rel2.out _ rfl)
      clear B4 CK hld rel2
      generalize shB _ = o4 at rel3 ⊢
      go_wp2_with fail
      go_roundw
      case rel => exact ⟨i + 1, o4, rfl, hltH.out, by go_num, rel3.out, H4⟩
      case measure => have := hltH.out; simp [RowKit.intOf]; omega
end Go.Proofs.YtkgegjnkkbgghaaDoor
