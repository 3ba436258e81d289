/-
  shape, by the reference, of any pattern; its Check.
-/
import Derived.Test.YtkgegjnkkbgghaaDoorGB
namespace Go.Proofs.YtkgegjnkkbgghaaDoor
open Go.RowKit
set_option linter.unusedVariables false
set_option linter.unusedSimpArgs false

theorem shape_no (n : Nd) (a : Option Addr) (len c : Nat) (h : ¬ fitN n len) (w : World) : Calls Tryd.prog 41 #[reV n.k n.s (.slice a len c) n.mn n.mx] w fun e w' => e = .returned (.bool false) ∧ Below w.heap.size w w' := by
  obtain ⟨k, s, mn, mx⟩ := n
  simp only
  by_cases hs : s = noSet
  · subst hs
    by_cases k1 : k = 1
    · subst k1
      by_cases hl : len = 0
      · subst hl
        by_cases hmn : mn = 0
        · subst hmn
          by_cases hmx : mx = 0
          · subst hmx
            exact absurd ⟨fun h => absurd rfl h, fun h => by simp at h, fun _ => ⟨rfl, rfl⟩, .inl ⟨rfl, rfl⟩⟩ h
          · exact ns1b_e_px mx hmx a c w
        · exact ns1b_e_pm mn mx hmn a c w
      · by_cases hmn : mn = 0
        · subst hmn
          by_cases hmx : mx = 0
          · subst hmx; exact ns1a_e_p00 len hl a c w
          · exact ns1a_e_px len hl mx hmx a c w
        · exact ns1a_e_pm len hl mn mx hmn a c w
    by_cases k2 : k = 2
    · subst k2
      by_cases hmn : mn = 0
      · subst hmn
        by_cases hmx : mx = 0
        · subst hmx
          exact absurd ⟨fun _ => rfl, fun h => by simp at h, fun _ => ⟨rfl, rfl⟩, .inr (.inl rfl)⟩ h
        · exact ns2_e_px len mx hmx a c w
      · exact ns2_e_pm len mn mx hmn a c w
    by_cases k3 : k = 3
    · subst k3
      by_cases hmn : mn = 0
      · subst hmn
        by_cases hmx : mx = 0
        · subst hmx
          exact absurd ⟨fun _ => rfl, fun h => by simp at h, fun _ => ⟨rfl, rfl⟩, .inr (.inr (.inl rfl))⟩ h
        · exact ns3_e_px len mx hmx a c w
      · exact ns3_e_pm len mn mx hmn a c w
    by_cases k4 : k = 4
    · subst k4
      by_cases hl : len = 1
      · subst hl
        have har : ¬ (0 ≤ mn ∧ mn ≤ 64 ∧ (mx = -1 ∨ mn ≤ mx ∧ mx ≤ 64)) := fun ⟨h1, h2, h3⟩ => h ⟨fun _ => rfl, fun _ => ⟨rfl, by unfold arT; rcases h3 with h3 | ⟨h3, h4⟩ <;> simp [h1, h2, h3]; omega⟩, fun h => absurd rfl h, .inr (.inr (.inr rfl))⟩
        by_cases hmn : mn = 0
        · subst hmn
          by_cases hmx : mx = 0
          · subst hmx; exact absurd ⟨by omega, by omega, .inr ⟨by omega, by omega⟩⟩ har
          · by_cases h64 : 64 < mx
            · exact ns4e_px mx hmx h64 a c w
            · by_cases hm1 : mx = -1
              · exact absurd ⟨by omega, by omega, .inl hm1⟩ har
              · by_cases hlt : mx < 0
                · exact ns4f_px mx hmx (by omega) hm1 hlt a c w
                · exact absurd ⟨by omega, by omega, .inr ⟨by omega, by omega⟩⟩ har
        · by_cases h0 : mn < 0
          · exact ns4c mn mx hmn h0 a c w
          · by_cases h1 : 64 < mn
            · exact ns4d mn mx hmn (by omega) h1 a c w
            · by_cases h64 : 64 < mx
              · exact ns4e_pm mn mx hmn (by omega) (by omega) h64 a c w
              · by_cases hm1 : mx = -1
                · exact absurd ⟨by omega, by omega, .inl hm1⟩ har
                · by_cases hlt : mx < mn
                  · exact ns4f_pm mn mx hmn (by omega) (by omega) (by omega) hm1 hlt a c w
                  · exact absurd ⟨by omega, by omega, .inr ⟨by omega, by omega⟩⟩ har
      · by_cases hmn : mn = 0
        · subst hmn
          by_cases hmx : mx = 0
          · subst hmx; exact ns4a_e_p00 len hl a c w
          · exact ns4a_e_px len hl mx hmx a c w
        · exact ns4a_e_pm len hl mn mx hmn a c w
    by_cases hmn : mn = 0
    · subst hmn
      by_cases hmx : mx = 0
      · subst hmx; exact ns0_e_p00 k k1 k2 k3 k4 len a c w
      · exact ns0_e_px k k1 k2 k3 k4 len mx hmx a c w
    · exact ns0_e_pm k k1 k2 k3 k4 len mn mx hmn a c w
  · by_cases k1 : k = 1
    · subst k1
      by_cases hl : len = 0
      · subst hl
        by_cases hmn : mn = 0
        · subst hmn
          by_cases hmx : mx = 0
          · subst hmx
            exact absurd ⟨fun h => absurd rfl h, fun h => by simp at h, fun _ => ⟨rfl, rfl⟩, .inl ⟨rfl, rfl⟩⟩ h
          · exact ns1b_n_px s hs mx hmx a c w
        · exact ns1b_n_pm s hs mn mx hmn a c w
      · by_cases hmn : mn = 0
        · subst hmn
          by_cases hmx : mx = 0
          · subst hmx; exact ns1a_n_p00 s hs len hl a c w
          · exact ns1a_n_px s hs len hl mx hmx a c w
        · exact ns1a_n_pm s hs len hl mn mx hmn a c w
    by_cases k2 : k = 2
    · subst k2
      by_cases hmn : mn = 0
      · subst hmn
        by_cases hmx : mx = 0
        · subst hmx; exact ns2_n_p00 s hs len a c w
        · exact ns2_n_px s hs len mx hmx a c w
      · exact ns2_n_pm s hs len mn mx hmn a c w
    by_cases k3 : k = 3
    · subst k3
      by_cases hmn : mn = 0
      · subst hmn
        by_cases hmx : mx = 0
        · subst hmx; exact ns3_n_p00 s hs len a c w
        · exact ns3_n_px s hs len mx hmx a c w
      · exact ns3_n_pm s hs len mn mx hmn a c w
    by_cases k4 : k = 4
    · subst k4
      by_cases hl : len = 1
      · subst hl
        by_cases hmn : mn = 0
        · subst hmn
          by_cases hmx : mx = 0
          · subst hmx; exact ns4b_p00 s hs a c w
          · exact ns4b_px s hs mx hmx a c w
        · exact ns4b_pm s hs mn mx hmn a c w
      · by_cases hmn : mn = 0
        · subst hmn
          by_cases hmx : mx = 0
          · subst hmx; exact ns4a_n_p00 s hs len hl a c w
          · exact ns4a_n_px s hs len hl mx hmx a c w
        · exact ns4a_n_pm s hs len hl mn mx hmn a c w
    by_cases hmn : mn = 0
    · subst hmn
      by_cases hmx : mx = 0
      · subst hmx; exact ns0_n_p00 k k1 k2 k3 k4 s hs len a c w
      · exact ns0_n_px k k1 k2 k3 k4 s hs len mx hmx a c w
    · exact ns0_n_pm k k1 k2 k3 k4 s hs len mn mx hmn a c w
/-- How the loop over the members goes: what is known of them. -/
structure ShK (t : Tr) (P : Nat → Prop) (a : Option Addr) (c : Nat) (w : World) : Prop where
  kid : ∀ w', Below w.heap.size w w' → ∀ i, i < t.2.len → ∃ b u, a = some ⟨b, 0, none⟩ ∧ (loadVar 27 ⟨b, i * 8, none⟩).run Tryd.prog w' = .ok (reV (t.2.nth i).1.k (t.2.nth i).1.s u (t.2.nth i).1.mn (t.2.nth i).1.mx) w' ∧ Calls Tryd.prog 41 #[reV (t.2.nth i).1.k (t.2.nth i).1.s u (t.2.nth i).1.mn (t.2.nth i).1.mx] w' fun e w2 => e = .returned (.bool (shB (t.2.nth i))) ∧ Below w'.heap.size w' w2
set_option maxHeartbeats 4000000 in
set_option maxRecDepth 100000 in
theorem ys2  (f : Fo) (P : Nat → Prop) (a : Option Addr) (c n : Nat) (w : World) (hn : f.len = n) (hn2 : n ≤ 10000) (K : ShK (⟨2, noSet, 0, 0⟩, f) P a c w) : Calls Tryd.prog 41 #[reV (2) (noSet) (.slice a n c) (0) (0)] w fun e w' => (e = .returned (.bool true) ∧ f.fit ∨ e = .returned (.bool false) ∧ ¬ f.fit) ∧ Below w.heap.size w w' := by
  have H := St.start Nope w
  have ky := fun w => eql24_yes w
  have kg := guard25

  have KID := hide (fun w' hb i (hi : i < n) => K.kid w' hb i (by rw [← hn] at hi; exact hi))
  have hfl := hide (fitTo_len f)
  have hff := hide (fit_fitTo f)
  rw [hn] at hfl hff
  replace hn := hide hn
  replace K := hide K
  go_enter Tryd.func41, Tryd.ntmps41
  go_wp2_with (first | ((with_reducible refine at_box 27 ?_); refine wl_box28 H rfl ?_; clear H; intro g w1 H q1 q2; have c0 := H.cell 0 0 rfl (v := .int .i64 (2)) rfl; have c1 := H.cell 0 1 rfl (v := .int .u64 (noSet).a) rfl; have c2 := H.cell 0 2 rfl (v := .int .u64 (noSet).b) rfl; have c3 := H.cell 0 3 rfl (v := .int .u64 (noSet).c) rfl; have c4 := H.cell 0 4 rfl (v := .int .u64 (noSet).d) rfl; have c5 := H.cell 0 5 rfl (v := .slice a n c) rfl; have c6 := H.cell 0 6 rfl (v := .int .i64 (0)) rfl; have c7 := H.cell 0 7 rfl (v := .int .i64 (0)) rfl; try simp only [noSet] at c1 c2 c3 c4))
  clear c0 c1 c2 c3 c4 c5 c6 c7
  replace H := hide H
  go_loopw [5, 6] (fun ov iv wr => ∃ (i : Nat) (o : Bool), ov = .bool o ∧ i ≤ n ∧ iv = .int .i64 (i : Int) ∧ Hid ((o = true ∧ f.fitTo i) ∨ (o = false ∧ ¬ f.fitTo i)) ∧ Hid (St Nope w wr [(true, g, 27, reA (2) (noSet) (.slice a n c) (0) (0))])) (fun _ iv _ => n - (RowKit.intOf iv).toNat)
  case atStart => exact ⟨0, true, rfl, Nat.zero_le _, rfl, .inl ⟨rfl, trivial⟩, H⟩
  case round =>
    obtain ⟨i, o, rfl, hi, rfl, ho, Hr⟩ := hrel
    have c5 := Hr.out.cell 0 5 rfl (v := .slice a n c) rfl
    have fin := hide Hr.out.below
    by_cases hlt : i < n
    case neg =>
      obtain rfl : i = n := by omega
      have j1 : ¬ ((i : Int) < (i : Int)) := by omega
      go_wp2_with fail
      go_ret
      refine ⟨?_, fin.out⟩
      rcases ho.out with ⟨rfl, h⟩ | ⟨rfl, h⟩
      · exact .inl ⟨rfl, hfl.out.1 h⟩
      · exact .inr ⟨rfl, fun hf => h (hfl.out.2 hf)⟩
    have j1 : (i : Int) < (n : Int) := by omega
    cases o with
    | false =>
      have hno : ¬ f.fitTo i := by
        rcases ho.out with ⟨h, _⟩ | ⟨_, h⟩
        · cases h
        · exact h
      have hno2 := hide (fun hf => hno (hff.out hf i hi))
      clear hno
      go_wp2_with fail
      go_ret
      exact ⟨.inr ⟨rfl, hno2.out⟩, fin.out⟩
    | true =>
      have hyes : f.fitTo i := by
        rcases ho.out with ⟨_, h⟩ | ⟨h, _⟩
        · exact h
        · cases h
      obtain ⟨b, u, rfl, hld, CK⟩ := KID.out wr Hr.out.below i hlt
      have rel2 : Hid (∀ o : Bool, o = shB (f.nth i) → (o = true ∧ f.fitTo (i + 1)) ∨ (o = false ∧ ¬ f.fitTo (i + 1))) := fun o ho => by
        by_cases hk : fitT (f.nth i)
        · exact .inl ⟨by rw [ho, shB_yes hk], hyes, hk⟩
        · exact .inr ⟨by rw [ho, shB_no hk], fun h => hk h.2⟩
      have hltH := hide hlt
      replace hld := hide hld
      replace CK := hide CK
      replace hyes := hide hyes
      have hnb : n ≤ 10000 := hn2
      go_wp2_with (first | ((with_reducible refine at_load 27 ?_); refine wl_loadA 27 rfl hld.out ?_))
      refine CK.out.mono ?_
      rintro e w4 ⟨rfl, B4⟩
      have H4 := hide (Hr.out.call B4 (Nat.le_refl _))
      have rel3 := hide (rel2.out _ rfl)
      clear B4 CK hld rel2
      generalize shB _ = o4 at rel3 ⊢
      go_wp2_with fail
      go_roundw
      case rel => exact ⟨i + 1, o4, rfl, hltH.out, by go_num, rel3.out, H4⟩
      case measure => have := hltH.out; simp [RowKit.intOf]; omega
set_option maxHeartbeats 4000000 in
set_option maxRecDepth 100000 in
theorem ys3  (f : Fo) (P : Nat → Prop) (a : Option Addr) (c n : Nat) (w : World) (hn : f.len = n) (hn2 : n ≤ 10000) (K : ShK (⟨3, noSet, 0, 0⟩, f) P a c w) : Calls Tryd.prog 41 #[reV (3) (noSet) (.slice a n c) (0) (0)] w fun e w' => (e = .returned (.bool true) ∧ f.fit ∨ e = .returned (.bool false) ∧ ¬ f.fit) ∧ Below w.heap.size w w' := by
  have H := St.start Nope w
  have ky := fun w => eql24_yes w
  have kg := guard25

  have KID := hide (fun w' hb i (hi : i < n) => K.kid w' hb i (by rw [← hn] at hi; exact hi))
  have hfl := hide (fitTo_len f)
  have hff := hide (fit_fitTo f)
  rw [hn] at hfl hff
  replace hn := hide hn
  replace K := hide K
  go_enter Tryd.func41, Tryd.ntmps41
  go_wp2_with (first | ((with_reducible refine at_box 27 ?_); refine wl_box28 H rfl ?_; clear H; intro g w1 H q1 q2; have c0 := H.cell 0 0 rfl (v := .int .i64 (3)) rfl; have c1 := H.cell 0 1 rfl (v := .int .u64 (noSet).a) rfl; have c2 := H.cell 0 2 rfl (v := .int .u64 (noSet).b) rfl; have c3 := H.cell 0 3 rfl (v := .int .u64 (noSet).c) rfl; have c4 := H.cell 0 4 rfl (v := .int .u64 (noSet).d) rfl; have c5 := H.cell 0 5 rfl (v := .slice a n c) rfl; have c6 := H.cell 0 6 rfl (v := .int .i64 (0)) rfl; have c7 := H.cell 0 7 rfl (v := .int .i64 (0)) rfl; try simp only [noSet] at c1 c2 c3 c4))
  clear c0 c1 c2 c3 c4 c5 c6 c7
  replace H := hide H
  go_loopw [5, 6] (fun ov iv wr => ∃ (i : Nat) (o : Bool), ov = .bool o ∧ i ≤ n ∧ iv = .int .i64 (i : Int) ∧ Hid ((o = true ∧ f.fitTo i) ∨ (o = false ∧ ¬ f.fitTo i)) ∧ Hid (St Nope w wr [(true, g, 27, reA (3) (noSet) (.slice a n c) (0) (0))])) (fun _ iv _ => n - (RowKit.intOf iv).toNat)
  case atStart => exact ⟨0, true, rfl, Nat.zero_le _, rfl, .inl ⟨rfl, trivial⟩, H⟩
  case round =>
    obtain ⟨i, o, rfl, hi, rfl, ho, Hr⟩ := hrel
    have c5 := Hr.out.cell 0 5 rfl (v := .slice a n c) rfl
    have fin := hide Hr.out.below
    by_cases hlt : i < n
    case neg =>
      obtain rfl : i = n := by omega
      have j1 : ¬ ((i : Int) < (i : Int)) := by omega
      go_wp2_with fail
      go_ret
      refine ⟨?_, fin.out⟩
      rcases ho.out with ⟨rfl, h⟩ | ⟨rfl, h⟩
      · exact .inl ⟨rfl, hfl.out.1 h⟩
      · exact .inr ⟨rfl, fun hf => h (hfl.out.2 hf)⟩
    have j1 : (i : Int) < (n : Int) := by omega
    cases o with
    | false =>
      have hno : ¬ f.fitTo i := by
        rcases ho.out with ⟨h, _⟩ | ⟨_, h⟩
        · cases h
        · exact h
      have hno2 := hide (fun hf => hno (hff.out hf i hi))
      clear hno
      go_wp2_with fail
      go_ret
      exact ⟨.inr ⟨rfl, hno2.out⟩, fin.out⟩
    | true =>
      have hyes : f.fitTo i := by
        rcases ho.out with ⟨_, h⟩ | ⟨h, _⟩
        · exact h
        · cases h
      obtain ⟨b, u, rfl, hld, CK⟩ := KID.out wr Hr.out.below i hlt
      have rel2 : Hid (∀ o : Bool, o = shB (f.nth i) → (o = true ∧ f.fitTo (i + 1)) ∨ (o = false ∧ ¬ f.fitTo (i + 1))) := fun o ho => by
        by_cases hk : fitT (f.nth i)
        · exact .inl ⟨by rw [ho, shB_yes hk], hyes, hk⟩
        · exact .inr ⟨by rw [ho, shB_no hk], fun h => hk h.2⟩
      have hltH := hide hlt
      replace hld := hide hld
      replace CK := hide CK
      replace hyes := hide hyes
      have hnb : n ≤ 10000 := hn2
      go_wp2_with (first | ((with_reducible refine at_load 27 ?_); refine wl_loadA 27 rfl hld.out ?_))
      refine CK.out.mono ?_
      rintro e w4 ⟨rfl, B4⟩
      have H4 := hide (Hr.out.call B4 (Nat.le_refl _))
      have rel3 := hide (rel2.out _ rfl)
      clear B4 CK hld rel2
      generalize shB _ = o4 at rel3 ⊢
      go_wp2_with fail
      go_roundw
      case rel => exact ⟨i + 1, o4, rfl, hltH.out, by go_num, rel3.out, H4⟩
      case measure => have := hltH.out; simp [RowKit.intOf]; omega
end Go.Proofs.YtkgegjnkkbgghaaDoor
