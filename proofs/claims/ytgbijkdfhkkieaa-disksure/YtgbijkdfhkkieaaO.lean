/-
  filled, bytes.Equal, mix.
-/
import Derived.Test.YtgbijkdfhkkieaaN
namespace Go.Proofs.Ytgbijkdfhkkieaa
open Go.RowKit Go.Maps Go.Lib
set_option linter.unusedVariables false
set_option linter.unusedSimpArgs false

/-- A row of bytes, whole. -/
def Rw (w : World) (r : Nat) (l : List Int) : Prop := Bx w r 5 (u8s l).toArray
theorem Rw.has {w : World} {r : Nat} {l : List Int} (h : Rw w r l) (hb : Byt l) (off k c : Nat) (hk : off + k ≤ l.length) (hc : k ≤ c) (hm : c ≤ maxLen) : Has w (some ⟨r, off, none⟩) k c ((l.drop off).take k) := by
  refine ⟨by simp; omega, hc, hm, fun e => (by cases e), fun hp => ⟨r, off, rfl, h.lt, fun i hi => ?_⟩, fun x hx => hb x (List.mem_of_mem_drop (List.mem_of_mem_take hx))⟩
  rw [h.cell]
  have hi' : off + i < l.length := by omega
  simp [u8s, List.getD, List.getElem?_take, hi, List.getElem?_drop, hi']
/-- So many bytes, with noughts where there are none. -/
def fil (l : List Int) (sz : Nat) : List Int := l.take sz ++ List.replicate (sz - l.length) 0
theorem fil_length (l : List Int) (sz : Nat) : (fil l sz).length = sz := by simp [fil]; omega
theorem fil_byt {l : List Int} (h : Byt l) (sz : Nat) : Byt (fil l sz) := by
  intro x hx
  simp only [fil, List.mem_append] at hx
  rcases hx with hx | hx
  · exact h x (List.mem_of_mem_take hx)
  · have := List.eq_of_mem_replicate hx; omega
set_option maxHeartbeats 2000000 in
set_option maxRecDepth 100000 in
theorem filled_any (w : World) (a : Option Addr) (n c sz : Nat) (l : List Int) (h : Has w a n c l) (hsz : sz ≤ 1099511627776) :
    Calls Try.prog 66 #[.slice a n c, .int .i64 (sz : Int)] w fun e w' => e = .returned (.slice (some ⟨w.heap.size, 0, none⟩) sz sz) ∧ Rw w' w.heap.size (fil l sz) ∧ Below w.heap.size w w' := by
  replace h := hide h
  go_enter Try.func66, Try.ntmps66
  go_upto_region 2 with (at_make; refine wpList_make2 rfl (.tmp 6) (.tmp 6) rfl sz sz _ _ rfl rfl rfl rfl (Nat.le_refl _) (by omega) ?_; intro w1 O1 B1)
  have X1 : Bx w1 w.heap.size 5 (u8s (List.replicate sz 0)).toArray := by
    rcases O1.2 with ⟨e, _⟩ | ⟨g, cap, cur, e, _, hb, h1, h2, h3, h4⟩
    · cases e
    · cases e
      rw [Nat.mul_one] at h3 h4
      have : cur = (u8s (List.replicate sz 0)).toArray := by
        apply Array.ext'
        exact (List.take_of_length_le (by simp [h3])).symm.trans h4
      rw [← this]
      exact hb
  have H1 := hide (h.out.kept B1 (Nat.le_refl _))
  obtain ⟨r, hr⟩ : ∃ r, w.heap.size = r := ⟨_, rfl⟩
  have B1' := hide B1
  rw [hr] at X1 ⊢
  replace X1 := hide X1
  clear O1 B1
  go_wp2_with (refine wpList_copyAt rfl (.tmp 8) (.tmp 9) rfl r 0 sz sz rfl _ X1.out (by simp) a n c l rfl H1.out ?_; intro w2 X2 b2)
  go_ret
  refine ⟨rfl, ?_, ?_⟩
  · have e : (u8s (List.replicate sz 0)).toArray.toList.take 0 ++ (u8s (l.take sz) ++ (u8s (List.replicate sz 0)).toArray.toList.drop (0 + (l.take sz).length)) = u8s (fil l sz) := by
      simp only [List.take_zero, List.nil_append, Nat.zero_add, u8s, fil, List.map_append, List.map_replicate, List.drop_replicate]
      congr 2
      simp
      omega
    unfold Rw
    rw [← e]
    exact X2
  · have B2 := B1'.out
    rw [hr] at B2
    exact B2.trans (b2.below (by have := B2.size; omega) (fun k e => by omega))
set_option maxHeartbeats 400000 in
theorem equal_any (w : World) (a a' : Option Addr) (len len' cap cap' : Nat) (l l' : List Int) (h : Has w a len cap l) (h' : Has w a' len' cap' l') :
    Calls Try.prog 84 #[.slice a len cap, .slice a' len' cap'] w fun e w' => e = .returned (.bool (decide (l = l'))) ∧ w' = w := by
  have r1 := run_string h
  have r2 := run_string h'
  have hi : Hid (strOfNums l = strOfNums l' ↔ l = l') := strOfNums_inj h.bytes h'.bytes
  clear h h'
  go_enter Try.func84, Try.ntmps84
  go_wp2
  go_ret
  exact ⟨ret_bool (by rw [Bool.eq_iff_iff, beq_iff_eq, decide_eq_true_iff, ← hi.out]; exact toList_inj _ _), rfl⟩
/-- What a crash leaves of a sector, and the picks that are left. -/
def mixS (S N ps : List Int) : List Int × List Int :=
  if S = N then (S, ps) else
  if (nx ps).1 % 3 = 1 then (N, (nx ps).2) else
  if (nx ps).1 % 3 = 2 then (N.take ((nx ps).1 / 3 % 256).toNat ++ S.drop ((nx ps).1 / 3 % 256).toNat, (nx ps).2) else (S, (nx ps).2)
theorem nx_nonneg (ps : List Int) : 0 ≤ (nx ps).1 := by
  cases ps <;> simp [nx]; omega
/-- A row with other bytes from a place on. -/
def put (O : List Int) (off : Nat) (X : List Int) : List Int := O.take off ++ (X ++ O.drop (off + X.length))
theorem row_copy {O X : List Int} {off k : Nat} : ((u8s O).toArray.toList.take off ++ (u8s (X.take k) ++ (u8s O).toArray.toList.drop (off + (X.take k).length))).toArray = (u8s (put O off (X.take k))).toArray := by
  simp [put, u8s, List.map_take, List.map_drop]
theorem nx_le {ps : List Int} (h : ∀ x ∈ ps, -9223372036854775808 ≤ x ∧ x ≤ 9223372036854775807) : (nx ps).1 ≤ 9223372036854775807 := by
  cases ps with
  | nil => simp [nx]
  | cons x r => have := h x (by simp); simp [nx]; omega
/-- The picks stay, where a row of bytes is turned. -/
theorem Pl.row {w w' : World} {q r : Nat} {ps O : List Int} {T : Nat → Prop} (h : Pl w q ps T) (hr : Rw w r O) (hb : But (fun x => x = r) w w') : Pl w' q ps T := by
  obtain ⟨a, n, c, X, H, n1, n2⟩ := h
  refine ⟨a, n, c, X.but hb ?_, ⟨H.hlen, H.le, H.capb, H.nil, fun hp => ?_, H.ints⟩, n1, n2⟩
  · rintro rfl
    have := (hr.typ X).1
    cases this
  · obtain ⟨b, off, e1, e2, e3⟩ := H.cells hp
    have hne : b ≠ r := by
      rintro rfl
      have := e3 0 hp
      rw [hr.cell] at this
      simp [u8s] at this
    refine ⟨b, off, e1, Nat.lt_of_lt_of_le e2 hb.size, fun i hi => ?_⟩
    rw [← e3 i hi]
    unfold World.cell?
    simp only [hb.block b e2 hne]
theorem put_same {O : List Int} {off k : Nat} (hk : off + k ≤ O.length) : put O off ((O.drop off).take k) = O := by
  have : ((O.drop off).take k).length = k := by simp; omega
  rw [put, this, ← List.drop_drop, List.take_append_drop, List.take_append_drop]
theorem put_two {O X : List Int} {off k j : Nat} (hk : off + k ≤ O.length) (hX : X.length = j) (hj : j ≤ k) : put O off (X ++ ((O.drop off).take k).drop j) = put O off X := by
  have e1 : (X ++ ((O.drop off).take k).drop j).length = k := by simp [hX]; omega
  rw [put, put, e1, hX, List.append_assoc]
  congr 2
  rw [List.drop_take, List.drop_drop]
  have : O.drop (off + k) = (O.drop (off + j)).drop (k - j) := by rw [List.drop_drop]; congr 1; omega
  rw [this, List.take_append_drop]
set_option maxHeartbeats 4000000 in
set_option maxRecDepth 100000 in
theorem mix_any {w : World} {r q : Nat} {O ps N : List Int} {T : Nat → Prop} (hr : Rw w r O) (hO : Byt O) (hP : Pl w q ps T) (off k c1 c2 : Nat) (a : Option Addr) (hk : off + k ≤ O.length) (hc : k ≤ c1) (hm : c1 ≤ maxLen) (HN : Has w a k c2 N) (hNq : ∀ j, (Value.slice a k c2).ownBlock = some j → j ≠ q) (hk2 : k ≤ 1099511627776) :
    Calls Try.prog 67 #[.slice (some ⟨r, off, none⟩) k c1, .slice a k c2, ptr q] w fun e w' => e = .returned (.tuple #[]) ∧ Rw w' r (put O off (mixS ((O.drop off).take k) N ps).1) ∧ Pl w' q (mixS ((O.drop off).take k) N ps).2 T ∧ But (fun x => x = r ∨ x = q) w w' := by
  have HS := hr.has hO off k c1 hk hc hm
  obtain ⟨S, hS⟩ : ∃ S, (O.drop off).take k = S := ⟨_, rfl⟩
  rw [hS] at HS ⊢
  have hSl : S.length = k := HS.hlen
  have hNl : N.length = k := HN.hlen
  have hrq : r ≠ q := by
    rintro rfl
    obtain ⟨a', n', c', X, _⟩ := hP
    have := (hr.typ X).1
    cases this
  have E := hide (equal_any w _ _ _ _ _ _ _ _ HS HN)
  have hO2 : Hid (put O off S = O) := by rw [← hS]; exact put_same hk
  have hx0 := nx_nonneg ps
  have hx1 : (nx ps).1 ≤ 9223372036854775807 := by
    obtain ⟨_, _, _, _, H, _⟩ := hP
    exact nx_le H.ints
  have NX := hide (next_any hP)
  replace hr := hide hr
  by_cases he : S = N
  · have hd : decide (S = N) = true := decide_eq_true he
    have e1 : mixS S N ps = (S, ps) := if_pos he
    rw [e1]
    replace hP := hide hP
    replace he := hide he
    clear NX HN HS
    go_enter Try.func67, Try.ntmps67
    go_wp2_with fail
    refine E.out.mono ?_
    rintro e w' ⟨rfl, hw⟩; replace hw := hw.symm; subst hw
    rw [hd]
    clear hd e1
    go_wp2_with fail
    refine bodyPost_ret (results_none rfl _ _ _) rfl ?_
    exact ⟨rfl, by rw [hO2.out]; exact hr.out, hP.out, But.refl _ _⟩
  · have hd : decide (S = N) = false := decide_eq_false he
    have e0 : mixS S N ps = if (nx ps).1 % 3 = 1 then (N, (nx ps).2) else if (nx ps).1 % 3 = 2 then (N.take ((nx ps).1 / 3 % 256).toNat ++ S.drop ((nx ps).1 / 3 % 256).toNat, (nx ps).2) else (S, (nx ps).2) := if_neg he
    rw [e0]
    clear e0
    obtain ⟨x, hx⟩ : ∃ x, (nx ps).1 = x := ⟨_, rfl⟩
    obtain ⟨p2, hp2⟩ : ∃ p2, (nx ps).2 = p2 := ⟨_, rfl⟩
    rw [hx, hp2] at NX
    rw [hx] at hx0 hx1
    rw [hx, hp2]
    clear hx hp2 hP
    replace he := hide he
    replace HN := hide HN
    replace HS := hide HS
    replace hNq := hide hNq
    have t3 : x.tmod 3 = x % 3 := Int.tmod_eq_emod_of_nonneg hx0
    by_cases h1 : x % 3 = 1
    · rw [if_pos h1]
      go_enter Try.func67, Try.ntmps67
      go_wp2_with fail
      refine E.out.mono ?_
      rintro e w' ⟨rfl, hw⟩; replace hw := hw.symm; subst hw
      rw [hd]
      clear hd
      go_wp2_with fail
      refine NX.out.mono ?_
      rintro e w1 ⟨rfl, P1, b1⟩
      have R1 : Rw w1 r O := hr.out.but b1 hrq
      have HN1 := hide (HN.out.but b1 (fun j hj => hNq.out j hj))
      replace b1 := hide b1
      replace P1 := hide P1
      replace R1 := hide R1
      clear E NX HN HS
      go_wp2_with (refine wpList_copyAt rfl (.tmp 17) (.tmp 18) rfl r off k c1 rfl _ R1.out (by simp; omega) a k c2 N rfl HN1.out ?_; intro w2 X2 b2)
      go_end0
      rw [row_copy, List.take_of_length_le (by omega)] at X2
      exact ⟨rfl, X2, P1.out.row R1.out b2, (b1.out.mono (fun _ e => .inr e)).trans b2 (fun _ _ e => .inl e)⟩
    · rw [if_neg h1]
      by_cases h2 : x % 3 = 2
      · rw [if_pos h2]
        obtain ⟨nn, hnn⟩ : ∃ nn : Nat, x / 3 % 256 = (nn : Int) := ⟨(x / 3 % 256).toNat, by omega⟩
        have hnb : nn < 256 := by omega
        have t4 : x.tdiv 3 = x / 3 := Int.tdiv_eq_ediv_of_nonneg hx0
        have t5 : (x / 3).tmod 256 = (nn : Int) := by rw [Int.tmod_eq_emod_of_nonneg (by omega), hnn]
        obtain ⟨mn, hmn⟩ : ∃ mn, min nn k = mn := ⟨_, rfl⟩
        have x1 : (if (nn : Int) < (k : Int) then (nn : Int) else (k : Int)) = (mn : Int) := by rw [← hmn]; split <;> omega
        have x2 : (if (k : Int) < (nn : Int) then (k : Int) else (nn : Int)) = (mn : Int) := by rw [← hmn]; split <;> omega
        have x3 : min (nn : Int) (k : Int) = (mn : Int) := by rw [← hmn]; omega
        rw [show (x / 3 % 256).toNat = nn by omega]
        have hmk : mn ≤ k := by omega
        have hc2 : mn ≤ c2 := Nat.le_trans hmk HN.out.le
        have rh := fun w => run_h w a k c2 mn hc2
        have fin : Hid (N.take nn ++ S.drop nn = N.take mn ++ S.drop mn) := by
          show N.take nn ++ S.drop nn = N.take mn ++ S.drop mn
          by_cases hlt : nn ≤ k
          · rw [show nn = mn by omega]
          · rw [List.take_of_length_le (by omega), List.drop_eq_nil_of_le (by omega), List.take_of_length_le (by omega), List.drop_eq_nil_of_le (by omega)]
        replace hmn := hide hmn
        have hmk' : (mn : Int) ≤ (k : Int) := by omega
        go_enter Try.func67, Try.ntmps67
        go_wp2_with fail
        refine E.out.mono ?_
        rintro e w' ⟨rfl, hw⟩; replace hw := hw.symm; subst hw
        rw [hd]
        clear hd
        go_wp2_with fail
        refine NX.out.mono ?_
        rintro e w1 ⟨rfl, P1, b1⟩
        have R1 : Rw w1 r O := hr.out.but b1 hrq
        have HN1 := hide (HN.out.but b1 (fun j hj => hNq.out j hj))
        replace b1 := hide b1
        replace P1 := hide P1
        replace R1 := hide R1
        clear E NX HN HS
        go_wp2_with (refine wpList_copyAt rfl (.tmp 25) (.tmp 31) rfl r off k c1 rfl _ R1.out (by simp; omega) a mn c2 (N.take mn) rfl (HN1.out.front mn hmk) ?_; intro w2 X2 b2)
        go_end0
        rw [row_copy, List.take_of_length_le (by simp; omega)] at X2
        refine ⟨rfl, ?_, P1.out.row R1.out b2, (b1.out.mono (fun _ e => .inr e)).trans b2 (fun _ _ e => .inl e)⟩
        rw [fin.out, ← hS, put_two hk (by simp; omega) hmk]
        exact X2
      · rw [if_neg h2]
        have hm3 : x % 3 = 0 := by omega
        go_enter Try.func67, Try.ntmps67
        go_wp2_with fail
        refine E.out.mono ?_
        rintro e w' ⟨rfl, hw⟩; replace hw := hw.symm; subst hw
        rw [hd]
        clear hd
        go_wp2_with fail
        refine NX.out.mono ?_
        rintro e w1 ⟨rfl, P1, b1⟩
        have R1 : Rw w1 r O := hr.out.but b1 hrq
        have HN1 := hide (HN.out.but b1 (fun j hj => hNq.out j hj))
        replace b1 := hide b1
        replace P1 := hide P1
        replace R1 := hide R1
        clear E NX HN HS
        go_wp2_with fail
        go_end0
        exact ⟨rfl, by rw [hO2.out]; exact R1.out, P1.out, b1.out.mono (fun _ e => .inr e)⟩
end Go.Proofs.Ytgbijkdfhkkieaa
