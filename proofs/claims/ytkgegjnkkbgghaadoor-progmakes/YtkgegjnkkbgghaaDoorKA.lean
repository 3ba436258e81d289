/-
  count, by the reference, of a pattern that may be. count, by the reference, of Kind 3. count, by the reference, of Kind 4. count, by the reference, of a pattern that may be.
-/
import Derived.Test.YtkgegjnkkbgghaaDoorGE
namespace Go.Proofs.YtkgegjnkkbgghaaDoor
open Go.RowKit
set_option linter.unusedVariables false
set_option linter.unusedSimpArgs false

/-- How many instructions the first i have. -/
def Fo.smTo (f : Fo) : Nat → Nat
  | 0 => 0
  | i + 1 => f.smTo i + (cdT (f.nth i)).n
theorem smTo_cons (n : Nd) (k r : Fo) : ∀ i, (Fo.cons n k r).smTo (i + 1) = (cdT (n, k)).n + r.smTo i
  | 0 => by simp [Fo.smTo, Fo.nth]
  | i + 1 => by rw [Fo.smTo, smTo_cons n k r i]; simp [Fo.smTo, Fo.nth, Nat.add_assoc]
theorem smTo_len : ∀ f : Fo, f.smTo f.len = sumN f.cds
  | .nil => rfl
  | .cons n k r => by rw [Fo.len, smTo_cons, smTo_len r]; rfl
theorem chN_sum : ∀ l : List Cd, l ≠ [] → chN l + 1 = sumN l + l.length
  | [], h => absurd rfl h
  | [c], _ => by simp [chN, sumN]
  | c :: d :: r, _ => by
    have := chN_sum (d :: r) (by simp)
    simp only [chN, sumN, List.length_cons] at this ⊢
    omega
theorem rep_capG (K c mn d : Nat) : min (max 1 (mn * min c K + d * (min c K + 1))) K = min (max 1 (mn * c + d * (c + 1))) K := by
  by_cases h : c ≤ K
  · rw [Nat.min_eq_left h]
  · have hm : min c K = K := by omega
    rw [hm]
    rcases Nat.eq_zero_or_pos mn with rfl | h1
    · rcases Nat.eq_zero_or_pos d with rfl | h2
      · simp
      · have a1 := Nat.le_mul_of_pos_left (K + 1) h2
        have a2 := Nat.le_mul_of_pos_left (c + 1) h2
        rw [Nat.zero_mul, Nat.zero_mul]
        omega
    · have a1 := Nat.le_mul_of_pos_left K h1
      have a2 := Nat.le_mul_of_pos_left c h1
      omega
theorem rep_cap (c mn d : Nat) : min (max 1 (mn * min c cap + d * (min c cap + 1))) cap = min (max 1 (mn * c + d * (c + 1))) cap := rep_capG cap c mn d
theorem cd_fit1 {s : S4} {mn mx : Int} {f : Fo} : (cdT (⟨1, s, mn, mx⟩, f)).n = 1 := by simp [cdT, cdN, sgl]
theorem cd_fit2 {s : S4} {mn mx : Int} {f : Fo} : (cdT (⟨2, s, mn, mx⟩, f)).n = max 1 (sumN f.cds) := by simp [cdT, cdN, sqn]
theorem cd_fit3 {s : S4} {mn mx : Int} {f : Fo} : (cdT (⟨3, s, mn, mx⟩, f)).n = chN f.cds := by simp [cdT, cdN, chc]
theorem cd_fit4 {s : S4} {mn mx : Int} {n : Nd} {k : Fo} : (cdT (⟨4, s, mn, mx⟩, .cons n k .nil)).n = max 1 (mn.toNat * (cdT (n, k)).n + (if mx = -1 then (cdT (n, k)).n + 1 else (mx.toNat - mn.toNat) * ((cdT (n, k)).n + 1))) := by
  have e : cdT (⟨4, s, mn, mx⟩, .cons n k .nil) = rp (cdT (n, k)) mn.toNat mx := by simp [cdT, cdN, Fo.cds]
  rw [e]
  simp only [rp, rpL_sum]
theorem cap_le {K a q : Nat} (h : min a K = q) : q ≤ K := by omega
theorem cap_step {K a b q k s m : Nat} (hq : min a K = q) (hk : min b K = k) (hs : q + k = s) (hm : min s K = m) : min (a + b) K = m := by omega
/-- What is known of the members. -/
structure CtK (f : Fo) (a : Option Addr) (w : World) : Prop where
  kid : ∀ w', Below w.heap.size w w' → ∀ i, i < f.len → ∃ b u, a = some ⟨b, 0, none⟩ ∧ (loadVar 27 ⟨b, i * 8, none⟩).run Tryd.prog w' = .ok (reV (f.nth i).1.k (f.nth i).1.s u (f.nth i).1.mn (f.nth i).1.mx) w' ∧ Calls Tryd.prog 25 #[reV (f.nth i).1.k (f.nth i).1.s u (f.nth i).1.mn (f.nth i).1.mx] w' fun e w2 => e = .returned (.int .i64 ((min (cdT (f.nth i)).n cap : Nat) : Int)) ∧ Below w'.heap.size w' w2
set_option maxHeartbeats 4000000 in
set_option maxRecDepth 100000 in
theorem ct1 (s : S4) (va : Option Addr) (n vc : Nat) (w : World) : Calls Tryd.prog 25 #[reV 1 s (.slice va n vc) 0 0] w fun e w' => e = .returned (.int .i64 1) ∧ Below w.heap.size w w' := by
  have H := St.start Nope w
  go_enter Tryd.func25, Tryd.ntmps25
  go_wp2_with (first | ((with_reducible refine at_box 27 ?_); refine wl_box28 H rfl ?_; clear H; intro g w1 H q1 q2; have c0 := H.cell 0 0 rfl (v := .int .i64 1) rfl; have c5 := H.cell 0 5 rfl (v := .slice va n vc) rfl; have c6 := H.cell 0 6 rfl (v := .int .i64 0) rfl; have c7 := H.cell 0 7 rfl (v := .int .i64 0) rfl))
  go_ret
  exact ⟨rfl, H.below⟩
set_option maxHeartbeats 4000000 in
set_option maxRecDepth 100000 in
theorem ct2 (s : S4) (f : Fo) (va : Option Addr) (n vc : Nat) (w : World) (hn : f.len = n) (hn2 : n ≤ 5000) (K : CtK f va w) (R : Nat) (hR : R = min (cdT (⟨2, s, 0, 0⟩, f)).n cap) : Calls Tryd.prog 25 #[reV 2 s (.slice va n vc) 0 0] w fun e w' => e = .returned (.int .i64 (R : Int)) ∧ Below w.heap.size w w' := by
  have H := St.start Nope w
  have KID := hide (fun w' hb i (hi : i < n) => K.kid w' hb i (by rw [← hn] at hi; exact hi))
  have sl := hide (smTo_len f)
  rw [hn] at sl
  have hRR : Hid (R = min (cdT (⟨2, s, 0, 0⟩, f)).n cap) := hR
  have cl := hide (Fo.cds_len f)
  rw [hn] at cl
  replace hn := hide hn
  replace K := hide K
  clear hR
  go_enter Tryd.func25, Tryd.ntmps25
  go_wp2_with (first | ((with_reducible refine at_box 27 ?_); refine wl_box28 H rfl ?_; clear H; intro g w1 H q1 q2; have c0 := H.cell 0 0 rfl (v := .int .i64 2) rfl; have c5 := H.cell 0 5 rfl (v := .slice va n vc) rfl; have c6 := H.cell 0 6 rfl (v := .int .i64 0) rfl; have c7 := H.cell 0 7 rfl (v := .int .i64 0) rfl))
  clear c0 c5 c6 c7
  replace H := hide H
  go_loopw [3, 4] (fun nv iv wr => ∃ i : Nat, i ≤ n ∧ nv = .int .i64 ((min (f.smTo i) cap : Nat) : Int) ∧ iv = .int .i64 (i : Int) ∧ Hid (St Nope w wr [(true, g, 27, reA 2 s (.slice va n vc) 0 0)])) (fun _ iv _ => n - (RowKit.intOf iv).toNat)
  case atStart => exact ⟨0, Nat.zero_le _, rfl, rfl, H⟩
  case round =>
    obtain ⟨i, hi, rfl, rfl, Hr⟩ := hrel
    have c0 := Hr.out.cell 0 0 rfl (v := .int .i64 2) rfl
    have c5 := Hr.out.cell 0 5 rfl (v := .slice va n vc) rfl
    have fin := hide Hr.out.below
    obtain ⟨q, hq⟩ : ∃ q, min (f.smTo i) cap = q := ⟨_, rfl⟩
    have hqc : q ≤ 1048576 := cap_le (K := cap) hq
    rw [hq]
    have hqH := hide hq
    clear hq
    by_cases hlt : i < n
    · have j1 : (i : Int) < (n : Int) := by omega
      obtain ⟨b, u, rfl, hld, CK⟩ := KID.out wr Hr.out.below i hlt
      obtain ⟨kq, hkq⟩ : ∃ kq, min (cdT (f.nth i)).n cap = kq := ⟨_, rfl⟩
      rw [hkq] at CK
      have hkc : kq ≤ 1048576 := cap_le (K := cap) hkq
      replace hkq := hide hkq
      obtain ⟨s2, hs2⟩ : ∃ s2, q + kq = s2 := ⟨_, rfl⟩
      obtain ⟨m2, hm2⟩ : ∃ m2, min s2 1048576 = m2 := ⟨_, rfl⟩
      have e1 : (q : Int) + (kq : Int) = (s2 : Int) := by omega
      have e2 : s2 ≤ 2097152 := by omega
      have f1 : (if (s2 : Int) < 1048576 then (s2 : Int) else 1048576) = (m2 : Int) := by split <;> omega
      have f2 : (if (1048576 : Int) < (s2 : Int) then 1048576 else (s2 : Int)) = (m2 : Int) := by split <;> omega
      have f3 : min (1048576 : Int) (s2 : Int) = (m2 : Int) := by omega
      have f4 : (if s2 < 1048576 then (s2 : Int) else 1048576) = (m2 : Int) := by split <;> omega
      have f5 : (if 1048576 < s2 then 1048576 else (s2 : Int)) = (m2 : Int) := by split <;> omega
      have hrel2 : Hid (min (f.smTo (i + 1)) cap = m2) := cap_step (K := cap) hqH.out hkq.out hs2 hm2
      have hltH := hide hlt
      replace hld := hide hld
      replace CK := hide CK
      clear hkq hs2 hm2
      go_wp2_with (first | ((with_reducible refine at_load 27 ?_); refine wl_loadA 27 rfl hld.out ?_))
      refine CK.out.mono ?_
      rintro e w4 ⟨rfl, B4⟩
      have H4 := hide (Hr.out.call B4 (Nat.le_refl _))
      clear B4 CK hld
      go_wp2_with fail
      go_roundw
      case rel => exact ⟨i + 1, hltH.out, by rw [hrel2.out], by go_num, H4⟩
      case measure => have := hltH.out; simp [RowKit.intOf]; omega
    · obtain rfl : i = n := by omega
      have hsum := sl.out
      have hr : R = max 1 q := by
        have h1 := hRR.out
        rw [cd_fit2, ← hsum] at h1
        have hq := hqH.out
        unfold cap at hq h1
        omega
      have hR2 : R ≤ 1048576 := by omega
      have f1 : (if (q : Int) < 1048576 then (q : Int) else 1048576) = (q : Int) := by split <;> omega
      have f2 : (if (1048576 : Int) < (q : Int) then 1048576 else (q : Int)) = (q : Int) := by split <;> omega
      have f3 : min (1048576 : Int) (q : Int) = (q : Int) := by omega
      have f4 : (if q < 1048576 then (q : Int) else 1048576) = (q : Int) := by split <;> omega
      have f5 : (if 1048576 < q then 1048576 else (q : Int)) = (q : Int) := by split <;> omega
      have m1 : (if (q : Int) < 1 then 1 else (q : Int)) = (R : Int) := by split <;> omega
      have m2 : (if (1 : Int) < (q : Int) then (q : Int) else 1) = (R : Int) := by split <;> omega
      have m3 : max (1 : Int) (q : Int) = (R : Int) := by omega
      have m4 : (if q < 1 then 1 else (q : Int)) = (R : Int) := by split <;> omega
      have m5 : (if 1 < q then (q : Int) else 1) = (R : Int) := by split <;> omega
      clear hr hsum
      go_wp2_with fail
      go_ret
      exact ⟨rfl, fin.out⟩
end Go.Proofs.YtkgegjnkkbgghaaDoor
namespace Go.Proofs.YtkgegjnkkbgghaaDoor
open Go.RowKit
set_option linter.unusedVariables false
set_option linter.unusedSimpArgs false

theorem mins5 (q r : Nat) (h : min q 1048576 = r) : (if (q : Int) < 1048576 then (q : Int) else 1048576) = (r : Int) ∧ (if (1048576 : Int) < (q : Int) then 1048576 else (q : Int)) = (r : Int) ∧ min (1048576 : Int) (q : Int) = (r : Int) ∧ (if q < 1048576 then (q : Int) else 1048576) = (r : Int) ∧ (if 1048576 < q then 1048576 else (q : Int)) = (r : Int) := by
  refine ⟨?_, ?_, ?_, ?_, ?_⟩ <;> (try split) <;> omega
theorem maxs5 (q r : Nat) (h : max 1 q = r) : (if (q : Int) < 1 then 1 else (q : Int)) = (r : Int) ∧ (if (1 : Int) < (q : Int) then (q : Int) else 1) = (r : Int) ∧ max (1 : Int) (q : Int) = (r : Int) ∧ (if q < 1 then 1 else (q : Int)) = (r : Int) ∧ (if 1 < q then (q : Int) else 1) = (r : Int) := by
  refine ⟨?_, ?_, ?_, ?_, ?_⟩ <;> (try split) <;> omega
theorem ct3_pack (q i R S C : Nat) (h1 : R = min C 1048576) (hC : 1 ≤ C) (h3 : C + 1 = S + i) (hq : min S 1048576 = q) (hi : 1 ≤ i) (hi2 : i ≤ 5000) : ∃ s2 s3 m2 : Nat, (q : Int) + (i : Int) = (s2 : Int) ∧ (s2 : Int) - 1 = (s3 : Int) ∧ s2 ≤ 2097152 ∧ s3 ≤ 2097152 ∧ m2 ≤ 1048576 ∧ R ≤ 1048576 ∧ min s3 1048576 = m2 ∧ min m2 1048576 = m2 ∧ max 1 m2 = R := by
  refine ⟨q + i, q + i - 1, min (q + i - 1) 1048576, ?_, ?_, ?_, ?_, ?_, ?_, rfl, ?_, ?_⟩ <;> omega
set_option maxHeartbeats 4000000 in
set_option maxRecDepth 100000 in
theorem ct3 (s : S4) (f : Fo) (va : Option Addr) (n vc : Nat) (w : World) (hn : f.len = n) (hn2 : n ≤ 5000) (K : CtK f va w) (R : Nat) (hR : R = min (cdT (⟨3, s, 0, 0⟩, f)).n cap) : Calls Tryd.prog 25 #[reV 3 s (.slice va n vc) 0 0] w fun e w' => e = .returned (.int .i64 (R : Int)) ∧ Below w.heap.size w w' := by
  have H := St.start Nope w
  have KID := hide (fun w' hb i (hi : i < n) => K.kid w' hb i (by rw [← hn] at hi; exact hi))
  have sl := hide (smTo_len f)
  rw [hn] at sl
  have hRR : Hid (R = min (cdT (⟨3, s, 0, 0⟩, f)).n cap) := hR
  have cl := hide (Fo.cds_len f)
  rw [hn] at cl
  replace hn := hide hn
  replace K := hide K
  clear hR
  go_enter Tryd.func25, Tryd.ntmps25
  go_wp2_with (first | ((with_reducible refine at_box 27 ?_); refine wl_box28 H rfl ?_; clear H; intro g w1 H q1 q2; have c0 := H.cell 0 0 rfl (v := .int .i64 3) rfl; have c5 := H.cell 0 5 rfl (v := .slice va n vc) rfl; have c6 := H.cell 0 6 rfl (v := .int .i64 0) rfl; have c7 := H.cell 0 7 rfl (v := .int .i64 0) rfl))
  clear c0 c5 c6 c7
  replace H := hide H
  go_loopw [3, 4] (fun nv iv wr => ∃ i : Nat, i ≤ n ∧ nv = .int .i64 ((min (f.smTo i) cap : Nat) : Int) ∧ iv = .int .i64 (i : Int) ∧ Hid (St Nope w wr [(true, g, 27, reA 3 s (.slice va n vc) 0 0)])) (fun _ iv _ => n - (RowKit.intOf iv).toNat)
  case atStart => exact ⟨0, Nat.zero_le _, rfl, rfl, H⟩
  case round =>
    obtain ⟨i, hi, rfl, rfl, Hr⟩ := hrel
    have c0 := Hr.out.cell 0 0 rfl (v := .int .i64 3) rfl
    have c5 := Hr.out.cell 0 5 rfl (v := .slice va n vc) rfl
    have fin := hide Hr.out.below
    obtain ⟨q, hq⟩ : ∃ q, min (f.smTo i) cap = q := ⟨_, rfl⟩
    have hqc : q ≤ 1048576 := cap_le (K := cap) hq
    rw [hq]
    have hqH := hide hq
    clear hq
    by_cases hlt : i < n
    · have j1 : (i : Int) < (n : Int) := by omega
      obtain ⟨b, u, rfl, hld, CK⟩ := KID.out wr Hr.out.below i hlt
      obtain ⟨kq, hkq⟩ : ∃ kq, min (cdT (f.nth i)).n cap = kq := ⟨_, rfl⟩
      rw [hkq] at CK
      have hkc : kq ≤ 1048576 := cap_le (K := cap) hkq
      replace hkq := hide hkq
      obtain ⟨s2, hs2⟩ : ∃ s2, q + kq = s2 := ⟨_, rfl⟩
      obtain ⟨m2, hm2⟩ : ∃ m2, min s2 1048576 = m2 := ⟨_, rfl⟩
      have e1 : (q : Int) + (kq : Int) = (s2 : Int) := by omega
      have e2 : s2 ≤ 2097152 := by omega
      obtain ⟨f1, f2, f3, f4, f5⟩ := mins5 s2 m2 (hm2)
      have hrel2 : Hid (min (f.smTo (i + 1)) cap = m2) := cap_step (K := cap) hqH.out hkq.out hs2 hm2
      have hltH := hide hlt
      replace hld := hide hld
      replace CK := hide CK
      clear hkq hs2 hm2
      go_wp2_with (first | ((with_reducible refine at_load 27 ?_); refine wl_loadA 27 rfl hld.out ?_))
      refine CK.out.mono ?_
      rintro e w4 ⟨rfl, B4⟩
      have H4 := hide (Hr.out.call B4 (Nat.le_refl _))
      clear B4 CK hld
      go_wp2_with fail
      go_roundw
      case rel => exact ⟨i + 1, hltH.out, by rw [hrel2.out], by go_num, H4⟩
      case measure => have := hltH.out; simp [RowKit.intOf]; omega
    · obtain rfl : i = n := by omega
      have hsum := sl.out
      have j1 : ¬ ((i : Int) < (i : Int)) := by omega
      by_cases h0 : i = 0
      · have hr : R = 1 ∧ q = 0 := by
          have h1 := hRR.out
          have h2 := cl.out
          rw [h0] at h2
          have h3 : f.cds = [] := List.eq_nil_of_length_eq_zero h2
          rw [cd_fit3, h3] at h1
          rw [h3] at hsum
          simp only [chN, sumN] at h1 hsum
          have hq := hqH.out
          unfold cap at hq h1
          omega
        obtain ⟨rfl, rfl⟩ := hr
        subst h0
        have e0 : ((0 : Nat) : Int) = 0 := rfl
        clear hsum
        simp only [e0]
        go_wp2_with fail
        go_ret
        exact ⟨rfl, fin.out⟩
      · have i0 : (0 : Int) < (i : Int) := by omega
        have hpk : ∃ s2 s3 m2 : Nat, (q : Int) + (i : Int) = (s2 : Int) ∧ (s2 : Int) - 1 = (s3 : Int) ∧ s2 ≤ 2097152 ∧ s3 ≤ 2097152 ∧ m2 ≤ 1048576 ∧ R ≤ 1048576 ∧ min s3 1048576 = m2 ∧ min m2 1048576 = m2 ∧ max 1 m2 = R := by
          have h1 := hRR.out
          have h2 := cl.out
          have hne : f.cds ≠ [] := fun h => by rw [h] at h2; exact h0 h2.symm
          have h3 := chN_sum f.cds hne
          rw [cd_fit3] at h1
          rw [h2, ← hsum] at h3
          exact ct3_pack q i R (f.smTo i) (chN f.cds) h1 (chN_pos _) h3 hqH.out (Nat.pos_of_ne_zero h0) hn2
        obtain ⟨s2, s3, m2, e1, e1b, e2, e3, hm3, hR2, k1, k2, k3⟩ := hpk
        obtain ⟨f1, f2, f3, f4, f5⟩ := mins5 s3 m2 k1
        obtain ⟨p1, p2, p3, p4, p5⟩ := mins5 m2 m2 k2
        obtain ⟨m1', m2', m3', m4', m5'⟩ := maxs5 m2 R k3
        have i0n : 0 < i := Nat.pos_of_ne_zero h0
        have i0d : decide ((0 : Int) < (i : Int)) = true := decide_eq_true i0
        have i0e : decide (0 < i) = true := decide_eq_true i0n
        replace hqH := hide hqH
        clear hsum k1 k2 k3 f4 f5 p4 p5 m4' m5' f3 p3 m3'
        go_wp2_with fail
        go_ret
        exact ⟨rfl, fin.out⟩
end Go.Proofs.YtkgegjnkkbgghaaDoor
namespace Go.Proofs.YtkgegjnkkbgghaaDoor
open Go.RowKit
set_option linter.unusedVariables false
set_option linter.unusedSimpArgs false

theorem mul_le64 (a b : Nat) (ha : a ≤ 64) (hb : b ≤ 1048577) : a * b ≤ 67108928 := Nat.le_trans (Nat.mul_le_mul ha hb) (by decide)
theorem cap_fin (K A c mn d m r R : Nat) (hR : R = min (max 1 (mn * A + d * (A + 1))) K) (hc : min A K = c) (hrc : min (max 1 (mn * min A K + d * (min A K + 1))) K = min (max 1 (mn * A + d * (A + 1))) K) (hK : 1 ≤ K) (hm : min (mn * c + d * (c + 1)) K = m) : max 1 m = R := by
  rw [hR, ← hrc, hc]
  omega
set_option maxHeartbeats 4000000 in
set_option maxRecDepth 100000 in
theorem ct4a (n1 : Nd) (k1 : Fo) (mn : Nat) (hmn : mn ≤ 64) (va : Option Addr) (vc : Nat) (w : World) (K : CtK (.cons n1 k1 .nil) va w) (R : Nat) (hR : R = min (cdT (⟨4, noSet, (mn : Int), -1⟩, .cons n1 k1 .nil)).n cap) : Calls Tryd.prog 25 #[reV 4 noSet (.slice va 1 vc) (mn : Int) (-1)] w fun e w' => e = .returned (.int .i64 (R : Int)) ∧ Below w.heap.size w w' := by
  have H := St.start Nope w
  obtain ⟨c, hc⟩ : ∃ c, min (cdT (n1, k1)).n cap = c := ⟨_, rfl⟩
  have hcb : c ≤ 1048576 := cap_le (K := cap) hc
  have KID := hide (fun w' hb => K.kid w' hb 0 (by simp [Fo.len]))
  obtain ⟨p1, hp1⟩ : ∃ p1, mn * c = p1 := ⟨_, rfl⟩
  have bp1 : p1 ≤ 67108928 := by rw [← hp1]; exact mul_le64 mn c hmn (by omega)
  obtain ⟨m, hm⟩ : ∃ m, min (p1 + (c + 1)) 1048576 = m := ⟨_, rfl⟩
  have hfin : max 1 m = R := by
    rw [cd_fit4, if_pos rfl, Int.toNat_natCast] at hR
    refine cap_fin cap (cdT (n1, k1)).n c mn 1 m R R ?_ hc (rep_cap _ _ _) (by decide) ?_
    · rw [Nat.one_mul]; exact hR
    · rw [Nat.one_mul, hp1]; exact hm
  obtain ⟨s, hs⟩ : ∃ s, p1 + (c + 1) = s := ⟨_, rfl⟩
  rw [hs] at hm
  have e1 : (mn : Int) * (c : Int) = (p1 : Int) := by rw [← hp1]; push_cast; rfl
  obtain ⟨c1, hc1⟩ : ∃ c1, c1 = c + 1 := ⟨_, rfl⟩
  have e2 : (c : Int) + 1 = (c1 : Int) := by omega
  have e3 : (p1 : Int) + (c1 : Int) = (s : Int) := by omega
  have b2 : c1 ≤ 2000000 := by omega
  have b3 : s ≤ 80000000 := by omega
  have bR : R ≤ 2000000 := by omega
  have bm : m ≤ 1048576 := by omega
  obtain ⟨f1, f2, _, _, _⟩ := mins5 s m hm
  obtain ⟨g1, g2, _, _, _⟩ := maxs5 m R hfin
  replace hc := hide hc
  replace hp1 := hide hp1
  replace hR := hide hR
  replace K := hide K
  clear hfin hm hs hc1
  go_enter Tryd.func25, Tryd.ntmps25
  go_wp2_with (first | ((with_reducible refine at_box 27 ?_); refine wl_box28 H rfl ?_; clear H; intro g w1 H q1 q2; have c0 := H.cell 0 0 rfl (v := .int .i64 4) rfl; have c5 := H.cell 0 5 rfl (v := .slice va 1 vc) rfl; have c6 := H.cell 0 6 rfl (v := .int .i64 (mn : Int)) rfl; have c7 := H.cell 0 7 rfl (v := .int .i64 (-1)) rfl; obtain ⟨b, u, hva, hld, CK⟩ := KID.out w1 H.below; subst hva; replace CK := hide CK; replace hld := hide hld) | ((with_reducible refine at_load 27 ?_); refine wl_loadA 27 rfl (by simpa using hld.out) ?_))
  have CK2 : Hid (Calls Tryd.prog 25 #[reV n1.k n1.s u n1.mn n1.mx] w1 fun e w2 => e = .returned (.int .i64 (c : Int)) ∧ Below w1.heap.size w1 w2) := by
    have h := CK.out
    rw [show min (cdT ((Fo.cons n1 k1 Fo.nil).nth 0)).n cap = c from hc.out] at h
    exact h
  clear CK hld
  refine CK2.out.mono ?_
  rintro e w4 ⟨rfl, B4⟩
  have H4 := H.call B4 (Nat.le_refl _)
  have fin := hide H4.below
  have c6' := H4.cell 0 6 rfl (v := .int .i64 (mn : Int)) rfl
  have c7' := H4.cell 0 7 rfl (v := .int .i64 (-1)) rfl
  clear c0 c5 c6 c7 H B4
  go_wp2_with fail
  go_ret
  exact ⟨rfl, fin.out⟩
set_option maxHeartbeats 4000000 in
set_option maxRecDepth 100000 in
theorem ct4b (n1 : Nd) (k1 : Fo) (mn mx : Nat) (hmn : mn ≤ mx) (hmx : mx ≤ 64) (va : Option Addr) (vc : Nat) (w : World) (K : CtK (.cons n1 k1 .nil) va w) (R : Nat) (hR : R = min (cdT (⟨4, noSet, (mn : Int), (mx : Int)⟩, .cons n1 k1 .nil)).n cap) : Calls Tryd.prog 25 #[reV 4 noSet (.slice va 1 vc) (mn : Int) (mx : Int)] w fun e w' => e = .returned (.int .i64 (R : Int)) ∧ Below w.heap.size w w' := by
  have H := St.start Nope w
  obtain ⟨c, hc⟩ : ∃ c, min (cdT (n1, k1)).n cap = c := ⟨_, rfl⟩
  have hcb : c ≤ 1048576 := cap_le (K := cap) hc
  have KID := hide (fun w' hb => K.kid w' hb 0 (by simp [Fo.len]))
  obtain ⟨p1, hp1⟩ : ∃ p1, mn * c = p1 := ⟨_, rfl⟩
  have bp1 : p1 ≤ 67108928 := by rw [← hp1]; exact mul_le64 mn c (by omega) (by omega)
  obtain ⟨d, hd⟩ : ∃ d, mx - mn = d := ⟨_, rfl⟩
  obtain ⟨p2, hp2⟩ : ∃ p2, d * (c + 1) = p2 := ⟨_, rfl⟩
  have bp2 : p2 ≤ 67108928 := by rw [← hp2]; exact mul_le64 d (c + 1) (by omega) (by omega)
  obtain ⟨m, hm⟩ : ∃ m, min (p1 + p2) 1048576 = m := ⟨_, rfl⟩
  have hfin : max 1 m = R := by
    rw [cd_fit4, if_neg (by omega), Int.toNat_natCast, Int.toNat_natCast, hd] at hR
    refine cap_fin cap (cdT (n1, k1)).n c mn d m R R hR hc (rep_cap _ _ _) (by decide) ?_
    rw [hp1, hp2]; exact hm
  obtain ⟨s, hs⟩ : ∃ s, p1 + p2 = s := ⟨_, rfl⟩
  rw [hs] at hm
  have e1 : (mn : Int) * (c : Int) = (p1 : Int) := by rw [← hp1]; push_cast; rfl
  obtain ⟨c1, hc1⟩ : ∃ c1, c1 = c + 1 := ⟨_, rfl⟩
  have e2 : (c : Int) + 1 = (c1 : Int) := by omega
  have e3 : (p1 : Int) + (p2 : Int) = (s : Int) := by omega
  have e4 : (mx : Int) - (mn : Int) = (d : Int) := by omega
  have e5 : (d : Int) * (c1 : Int) = (p2 : Int) := by rw [← hp2, hc1]; push_cast; rfl
  have e6 : ¬ ((mx : Int) < 0) := by omega
  have e6b : decide ((mx : Int) < 0) = false := decide_eq_false e6
  have hmx6 : mx ≤ 64 := hmx
  have hmn6 : mn ≤ 64 := by omega
  have bd : d ≤ 64 := by omega
  have b2 : c1 ≤ 2000000 := by omega
  have b3 : s ≤ 200000000 := by omega
  have bR : R ≤ 2000000 := by omega
  have bm : m ≤ 1048576 := by omega
  obtain ⟨f1, f2, _, _, _⟩ := mins5 s m hm
  obtain ⟨g1, g2, _, _, _⟩ := maxs5 m R hfin
  replace hc := hide hc
  replace hp1 := hide hp1
  replace hR := hide hR
  replace K := hide K
  replace hp2 := hide hp2
  clear hfin hm hs hc1 hd hmn
  go_enter Tryd.func25, Tryd.ntmps25
  go_wp2_with (first | ((with_reducible refine at_box 27 ?_); refine wl_box28 H rfl ?_; clear H; intro g w1 H q1 q2; have c0 := H.cell 0 0 rfl (v := .int .i64 4) rfl; have c5 := H.cell 0 5 rfl (v := .slice va 1 vc) rfl; have c6 := H.cell 0 6 rfl (v := .int .i64 (mn : Int)) rfl; have c7 := H.cell 0 7 rfl (v := .int .i64 (mx : Int)) rfl; obtain ⟨b, u, hva, hld, CK⟩ := KID.out w1 H.below; subst hva; replace CK := hide CK; replace hld := hide hld) | ((with_reducible refine at_load 27 ?_); refine wl_loadA 27 rfl (by simpa using hld.out) ?_))
  have CK2 : Hid (Calls Tryd.prog 25 #[reV n1.k n1.s u n1.mn n1.mx] w1 fun e w2 => e = .returned (.int .i64 (c : Int)) ∧ Below w1.heap.size w1 w2) := by
    have h := CK.out
    rw [show min (cdT ((Fo.cons n1 k1 Fo.nil).nth 0)).n cap = c from hc.out] at h
    exact h
  clear CK hld
  refine CK2.out.mono ?_
  rintro e w4 ⟨rfl, B4⟩
  have H4 := H.call B4 (Nat.le_refl _)
  have fin := hide H4.below
  have c6' := H4.cell 0 6 rfl (v := .int .i64 (mn : Int)) rfl
  have c7' := H4.cell 0 7 rfl (v := .int .i64 (mx : Int)) rfl
  clear c0 c5 c6 c7 H B4
  go_wp2_with fail
  go_ret
  exact ⟨rfl, fin.out⟩
end Go.Proofs.YtkgegjnkkbgghaaDoor
namespace Go.Proofs.YtkgegjnkkbgghaaDoor
open Go.RowKit
set_option linter.unusedVariables false
set_option linter.unusedSimpArgs false

theorem fitT_nth {f : Fo} (h : f.fit) {i : Nat} (hi : i < f.len) : fitT (f.nth i) := (fit_fitTo f h (i + 1) hi).2
theorem rct_any : ∀ (N : Nat) (t : Tr), szT t ≤ N → ∀ (P : Nat → Prop) (v : Value) (w : World), TrV w P (reV t.1.k t.1.s v t.1.mn t.1.mx) t → fitT t → szT t ≤ 4096 →
    Calls Tryd.prog 25 #[reV t.1.k t.1.s v t.1.mn t.1.mx] w fun e w' => e = .returned (.int .i64 ((min (cdT t).n cap : Nat) : Int)) ∧ Below w.heap.size w w' := by
  intro N
  induction N with
  | zero => intro t h; simp [szT] at h
  | succ N ih =>
    intro t hN P v w T hf hsz
    obtain ⟨va, vc, rfl⟩ := T.sl
    have hl := len_le_sz t.2
    have hs1 : szT t = 1 + t.2.sz := rfl
    have K : CtK t.2 va w := ⟨fun w' hb i hi => by
      obtain ⟨b, c, u, hv, hld, Tk⟩ := TrV.kid (T.kept (fun b _ hl => hb.block b hl)) (i := i) hi
      obtain ⟨e1, _⟩ : va = some ⟨b, 0, none⟩ ∧ vc = c := by simpa using hv
      have hk := nth_sz t.2 i hi
      exact ⟨b, u, e1, hld, ih (t.2.nth i) (by omega) P u w' Tk (fitT_nth hf.2 hi) (by omega)⟩⟩
    clear T ih
    obtain ⟨⟨k, s, mn, mx⟩, f⟩ := t
    obtain ⟨⟨h1, h2, h3, h4⟩, hff⟩ := hf
    simp only at *
    have hn2 : f.len ≤ 5000 := by omega
    rcases h4 with ⟨rfl, h0⟩ | rfl | rfl | rfl
    · obtain ⟨rfl, rfl⟩ := h3 (by decide)
      rw [cd_fit1, show min 1 cap = 1 from rfl]
      exact ct1 s va f.len vc w
    · obtain ⟨rfl, rfl⟩ := h3 (by decide)
      exact ct2 s f va f.len vc w rfl hn2 K _ rfl
    · obtain ⟨rfl, rfl⟩ := h3 (by decide)
      exact ct3 s f va f.len vc w rfl hn2 K _ rfl
    · obtain rfl := h1 (by decide)
      obtain ⟨hl1, ha⟩ := h2 rfl
      have ha2 : 0 ≤ mn ∧ mn ≤ 64 ∧ (mx = -1 ∨ mn ≤ mx ∧ mx ≤ 64) := by
        unfold arT at ha
        simp at ha
        omega
      obtain ⟨a1, a2, a3⟩ := ha2
      obtain ⟨n1, k1, rfl⟩ : ∃ n1 k1, f = .cons n1 k1 .nil := by
        cases f with
        | nil => simp [Fo.len] at hl1
        | cons n1 k1 r => cases r with
          | nil => exact ⟨n1, k1, rfl⟩
          | cons _ _ _ => simp [Fo.len] at hl1
      rw [hl1]
      obtain ⟨mn, rfl⟩ := Int.eq_ofNat_of_zero_le a1
      by_cases hm1 : mx = -1
      · subst hm1
        exact ct4a n1 k1 mn (by omega) va vc w K _ rfl
      · obtain ⟨mx, rfl⟩ := Int.eq_ofNat_of_zero_le (a := mx) (by omega)
        exact ct4b n1 k1 mn mx (by omega) (by omega) va vc w K _ rfl
end Go.Proofs.YtkgegjnkkbgghaaDoor
