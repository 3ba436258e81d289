/-
  deep, by the reference: how deep a pattern is, and how many it is.
-/
import Derived.Test.YtkgegjnkkbgghaaDoorEJ
namespace Go.Proofs.YtkgegjnkkbgghaaDoor
open Go.RowKit
set_option linter.unusedVariables false
set_option linter.unusedSimpArgs false

/-- How deep the first i are. -/
def Fo.dpTo (f : Fo) : Nat → Nat
  | 0 => 0
  | i + 1 => max (f.dpTo i) (dpT (f.nth i))
theorem dpTo_cons (n : Nd) (k r : Fo) : ∀ i, (Fo.cons n k r).dpTo (i + 1) = max (dpT (n, k)) (r.dpTo i)
  | 0 => by simp [Fo.dpTo, Fo.nth]
  | i + 1 => by rw [Fo.dpTo, dpTo_cons n k r i]; simp [Fo.dpTo, Fo.nth]
theorem dpTo_len : ∀ f : Fo, f.dpTo f.len = f.dp
  | .nil => rfl
  | .cons n k r => by rw [Fo.len, dpTo_cons, dpTo_len r]; simp [dpT, Fo.dp]
theorem dpTo_le (f : Fo) : ∀ i, i ≤ f.len → f.dpTo i ≤ f.dp := by
  have mono : ∀ j i, f.dpTo i ≤ f.dpTo (i + j) := fun j => by
    induction j with
    | zero => intro i; exact Nat.le_refl _
    | succ j ih => intro i; have := ih i; show _ ≤ max (f.dpTo (i + j)) _; omega
  intro i hi
  have := mono (f.len - i) i
  rw [show i + (f.len - i) = f.len by omega, dpTo_len] at this
  exact this
theorem nth_dp (f : Fo) (i : Nat) (h : i < f.len) : dpT (f.nth i) ≤ f.dp := by
  have h1 := dpTo_le f (i + 1) h
  have h2 : f.dpTo (i + 1) = max (f.dpTo i) (dpT (f.nth i)) := rfl
  omega
theorem nth_sz (f : Fo) (i : Nat) (h : i < f.len) : szT (f.nth i) ≤ f.sz := by
  have h1 := szTo_le f (i + 1) h
  have h2 : f.szTo (i + 1) = f.szTo i + szT (f.nth i) := rfl
  omega
/-- The member i of a pattern in memory. -/
theorem TrV.kid {w : World} {P : Nat → Prop} {t : Tr} {v : Value} (T : TrV w P (reV t.1.k t.1.s v t.1.mn t.1.mx) t) {i : Nat} (hi : i < t.2.len) :
    ∃ b c u, v = .slice (some ⟨b, 0, none⟩) t.2.len c ∧ (loadVar 27 ⟨b, i * 8, none⟩).run Tryd.prog w = .ok (reV (t.2.nth i).1.k (t.2.nth i).1.s u (t.2.nth i).1.mn (t.2.nth i).1.mx) w ∧ TrV w P (reV (t.2.nth i).1.k (t.2.nth i).1.s u (t.2.nth i).1.mn (t.2.nth i).1.mx) (t.2.nth i) := by
  obtain ⟨v', zs, e, o, p, k⟩ := T
  obtain rfl : v = v' := by
    simp only [reV, reA, Value.agg.injEq] at e
    have := congrArg (fun a => a[5]?) e
    simpa using this
  obtain ⟨cv, czs, hcells, cho, chp, chk⟩ := Kd.nth k i hi
  rcases o.2 with ⟨_, h2⟩ | ⟨g, cap', cur, hv, _⟩
  · omega
  · subst hv
    refine ⟨g, cap', cv, rfl, load28c (fun j u hj => ?_), cv, czs, rfl, cho, chp, chk⟩
    have := o.cells (g := g) rfl _ _ (hcells j u hj)
    rwa [add_plain, Nat.zero_add] at this
theorem TrV.sl {w : World} {P : Nat → Prop} {t : Tr} {v : Value} (T : TrV w P (reV t.1.k t.1.s v t.1.mn t.1.mx) t) : ∃ a c, v = .slice a t.2.len c := by
  obtain ⟨v', zs, e, o, p, k⟩ := T
  obtain rfl : v = v' := by
    simp only [reV, reA, Value.agg.injEq] at e
    have := congrArg (fun a => a[5]?) e
    simpa using this
  obtain ⟨a, c, h, _⟩ := owns8_val o
  exact ⟨a, c, h⟩
set_option maxHeartbeats 4000000 in
set_option maxRecDepth 100000 in
theorem deep_any : ∀ (N : Nat) (t : Tr), szT t ≤ N → ∀ (l : Nat) (P : Nat → Prop) (v : Value) (w : World), TrV w P (reV t.1.k t.1.s v t.1.mn t.1.mx) t → dpT t ≤ l + 1 → l ≤ 128 → szT t ≤ 4096 →
    Calls Tryd.prog 40 #[reV t.1.k t.1.s v t.1.mn t.1.mx, .int .i64 (l : Int)] w fun e w' => e = .returned (.tuple #[.int .i64 (dpT t : Int), .int .i64 (szT t : Int)]) ∧ Below w.heap.size w w' := by
  intro N
  induction N with
  | zero => intro t h; simp [szT] at h
  | succ N ih =>
    intro t hN l P v w T hdp hl hsz
    obtain ⟨va, vc, rfl⟩ := T.sl
    have hlen := len_le_sz t.2
    have hsz1 : szT t = 1 + t.2.sz := rfl
    have hdp1 : dpT t = 1 + t.2.dp := rfl
    have KID := hide (fun w' (hb : Below w.heap.size w w') i hi => TrV.kid (T.kept (fun b _ hl => hb.block b hl)) (i := i) hi)
    have dl := hide (dpTo_len t.2)
    have sl := hide (szTo_len t.2)
    have nsz := hide (nth_sz t.2)
    have ndp := hide (nth_dp t.2)
    have dle := hide (dpTo_le t.2)
    have sle := hide (szTo_le t.2)
    replace ih := hide ih
    replace T := hide T
    have H := St.start Nope w
    obtain ⟨n, hn⟩ : ∃ n, t.2.len = n := ⟨_, rfl⟩
    obtain ⟨D, hD⟩ : ∃ D, dpT t = D := ⟨_, rfl⟩
    obtain ⟨Z, hZ⟩ : ∃ Z, szT t = Z := ⟨_, rfl⟩
    have hn5 : n ≤ 4096 := by omega
    have hDl : D ≤ l + 1 := by omega
    have hZ4 : Z ≤ 4096 := by omega
    rw [hD, hZ, hn]
    rw [hn] at KID dl sl nsz ndp dle sle
    replace hn := hide hn
    replace hD := hide hD
    replace hZ := hide hZ
    replace hsz1 := hide hsz1
    replace hdp1 := hide hdp1
    clear hlen hsz hdp
    go_enter Tryd.func40, Tryd.ntmps40
    go_wp2_with (first | ((with_reducible refine at_box 27 ?_); refine wl_box28 H rfl ?_; clear H; intro g2 w1 H q1 q2))
    replace H := hide H
    go_loopw [6, 7, 8] (fun dv nv iv wr => ∃ i : Nat, i ≤ n ∧ dv = .int .i64 ((t.2.dpTo i : Nat) : Int) ∧ nv = .int .i64 ((1 + t.2.szTo i : Nat) : Int) ∧ iv = .int .i64 (i : Int) ∧ Hid (St Nope w wr [(true, g2, 27, reA t.1.k t.1.s (.slice va n vc) t.1.mn t.1.mx)])) (fun _ _ iv _ => n - (RowKit.intOf iv).toNat)
    case atStart => exact ⟨0, Nat.zero_le _, rfl, rfl, rfl, H⟩
    case round =>
      obtain ⟨i, hi, rfl, rfl, rfl, Hr⟩ := hrel
      have c5 := Hr.out.cell 0 5 rfl (v := .slice va n vc) rfl
      have hsi := sle.out i hi
      have hdi := dle.out i hi
      obtain ⟨di, hdi2⟩ : ∃ d, t.2.dpTo i = d := ⟨_, rfl⟩
      obtain ⟨si, hsi2⟩ : ∃ d, 1 + t.2.szTo i = d := ⟨_, rfl⟩
      rw [hdi2, hsi2]
      by_cases hlt : i < n
      case neg =>
        obtain rfl : i = n := by omega
        have j1 : ¬ ((i : Int) < (i : Int)) := by omega
        have eD : ((di : Int) + 1) = (D : Int) := by have h1 := hD.out; have h2 := hdp1.out; have h3 := dl.out; omega
        have eZ : (si : Int) = (Z : Int) := by have h1 := hZ.out; have h2 := hsz1.out; have h3 := sl.out; omega
        have hDb : D ≤ 200 := by omega
        rw [eZ]
        have fin := hide Hr.out.below
        go_wp2_with fail
        go_ret2
        exact ⟨rfl, fin.out⟩
      have j1 : (i : Int) < (n : Int) := by omega
      have j2 : (i : Int) < 5000 := by omega
      obtain ⟨b, c, u, hv, hld, Tk⟩ := KID.out wr Hr.out.below i hlt
      obtain ⟨rfl, rfl⟩ : va = some ⟨b, 0, none⟩ ∧ vc = c := by simpa using hv
      have ks := nsz.out i hlt
      have kd := ndp.out i hlt
      have es : t.2.szTo (i + 1) = t.2.szTo i + szT (t.2.nth i) := rfl
      have ed : t.2.dpTo (i + 1) = max (t.2.dpTo i) (dpT (t.2.nth i)) := rfl
      have sle2 := sle.out (i + 1) hlt
      have dle2 := dle.out (i + 1) hlt
      have h1 := hD.out
      have h2 := hdp1.out
      have h3 := hZ.out
      have h4 := hsz1.out
      obtain ⟨l', rfl⟩ : ∃ l', l = l' + 1 := ⟨l - 1, by have : 1 ≤ dpT (t.2.nth i) := by simp [dpT]
                                                        omega⟩
      have IH := hide (ih.out (t.2.nth i) (by omega) l' P u wr Tk (by omega) (by omega) (by omega))
      generalize t.2.nth i = tk at *
      obtain ⟨zk, hzk⟩ : ∃ z, szT tk = z := ⟨_, rfl⟩
      obtain ⟨dk, hdk⟩ : ∃ z, dpT tk = z := ⟨_, rfl⟩
      rw [hzk, hdk] at IH
      obtain ⟨s2, hs2⟩ : ∃ s2, 1 + t.2.szTo (i + 1) = s2 := ⟨_, rfl⟩
      obtain ⟨d2, hd2⟩ : ∃ d2, t.2.dpTo (i + 1) = d2 := ⟨_, rfl⟩
      obtain ⟨ll, hll⟩ : ∃ ll : Int, ll = ((l' + 1 : Nat) : Int) := ⟨_, rfl⟩
      simp only [← hll]
      have e1 : ll - 1 = (l' : Int) := by omega
      have e2 : (ll == 0) = false := beq_eq_false_iff_ne.2 (by omega)
      have e2b : ¬ (ll = 0) := by omega
      have e3 : (si : Int) + (zk : Int) = (s2 : Int) := by omega
      have e4 : (if (di : Int) < (dk : Int) then (dk : Int) else (di : Int)) = (d2 : Int) := by split <;> omega
      have e4b : (if (dk : Int) < (di : Int) then (di : Int) else (dk : Int)) = (d2 : Int) := by split <;> omega
      have e4d : (if di < dk then (dk : Int) else (di : Int)) = (d2 : Int) := by split <;> omega
      have e4e : (if dk < di then (di : Int) else (dk : Int)) = (d2 : Int) := by split <;> omega
      have e4c : max (di : Int) (dk : Int) = (d2 : Int) := by omega
      have b1 : s2 ≤ 4096 := by omega
      have b2 : d2 ≤ 200 := by omega
      have e5 : ¬ ((4096 : Int) < (s2 : Int)) := by omega
      have e6 : ¬ ((999 : Int) ≤ (d2 : Int)) := by omega
      have b3 : l' ≤ 200 := by omega
      replace hld := hide hld
      have rel2 : Hid (t.2.dpTo (i + 1) = d2 ∧ 1 + t.2.szTo (i + 1) = s2) := ⟨hd2, hs2⟩
      have hltH := hide hlt
      replace hv := hide hv
      clear h1 h2 h3 h4 ks kd es ed sle2 dle2 hsi hdi hdi2 hsi2 hzk hdk hs2 hd2 hll Tk hDl
      go_wp2_with (first | ((with_reducible refine at_load 27 ?_); refine wl_loadA 27 rfl hld.out ?_))
      refine IH.out.mono ?_
      rintro e w4 ⟨rfl, B4⟩
      have H4 := hide (Hr.out.call B4 (Nat.le_refl _))
      clear B4
      go_wp2_with fail
      go_roundw
      case rel => exact ⟨i + 1, hltH.out, by rw [rel2.out.1], by rw [rel2.out.2], by go_num, H4⟩
      case measure => have := hltH.out; simp [RowKit.intOf]; omega
end Go.Proofs.YtkgegjnkkbgghaaDoor
