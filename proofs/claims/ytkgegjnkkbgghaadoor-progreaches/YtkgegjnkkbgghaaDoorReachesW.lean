/-
  The walk of ProgReaches.
-/
import Derived.Test.YtkgegjnkkbgghaaDoorFC
import Derived.Test.YtkgegjnkkbgghaaDoorFA
import Derived.Test.YtkgegjnkkbgghaaDoorEJ
import Derived.Test.YtkgegjnkkbgghaaDoorDW
namespace Go.Proofs.YtkgegjnkkbgghaaDoor
open Go.RowKit Go.Shelf Go.Lib
set_option linter.unusedVariables false
set_option linter.unusedSimpArgs false

set_option maxHeartbeats 4000000 in
set_option maxRecDepth 100000 in
theorem reachesW (cs : Array Value) (w : World) (hT : Tab w) (hP : Pw w) (hA : ∀ d, ArgR w d cs.toList) : Calls Tryd.prog 6 #[.agg cs] w fun e w' => e = .returned (.bool true) ∧ Below w.heap.size w w' := by
  obtain ⟨k0, s0, a0, n0, c0, mn0, mx0, hcs, _⟩ := argR_cases (hA 0)
  obtain rfl : cs = reA k0 s0 (.slice a0 n0 c0) mn0 mx0 := by
    apply Array.ext'
    exact hcs
  show Calls Tryd.prog 6 #[reV k0 s0 (.slice a0 n0 c0) mn0 mx0] w _
  have WK := hide (fun w' (hb : Below w.heap.size w w') => works_any w' (hT.below hb) (hP.below hb))
  have SM := hide (fun w' (hb : Below w.heap.size w w') => some_any _ w' (fun d => (hA d).kept hb))
  clear hcs hA
  have H := St.start Nope w
  go_enter Tryd.func6, Tryd.ntmps6
  go_wp2_with (first | ((with_reducible refine at_box 27 ?_); refine wl_box28 H rfl ?_; clear H; intro g1 w1 H q1 q2))
  refine (WK.out w1 H.below).mono ?_
  rintro e w2 ⟨rfl, B2⟩
  replace H := H.call B2 (Nat.le_refl _)
  go_wp2_with (first | ((with_reducible refine at_load 27 ?_); refine wl_load28 0 H rfl rfl ?_))
  refine (SM.out w2 H.below).mono ?_
  rintro e w3 ⟨t, u, rfl, T, hsz, B3⟩
  replace H := H.call B3 (Nat.le_refl _)
  have HB3 := hide H.below
  clear H WK SM B2
  have hdp := dpT_le t
  have hu : ∃ ua un uc, u = .slice ua un uc := by
    obtain ⟨va, vn, vc, hx⟩ := T.val
    simp only [reV, reA, Value.agg.injEq] at hx
    have := congrArg (fun a => a[5]?) hx
    simp at this
    exact ⟨_, _, _, this⟩
  obtain ⟨ua, un, uc, rfl⟩ := hu
  by_cases hf : fitT t
  case neg =>
    have MK := hide (make_no t _ _ w3 T hf (by omega) (by omega))
    replace T := hide T
    replace hf := hide hf
    go_wp2_with fail
    refine MK.out.mono ?_
    rintro e w4 ⟨rfl, B4⟩
    go_wp2_with fail
    go_ret
    exact ⟨rfl, HB3.out.trans (B4.mono HB3.out.size)⟩
  have MK := hide (make_ok t _ _ w3 T hf (by omega) (by omega))
  replace T := hide T
  replace hf := hide hf
  go_wp2_with fail
  refine MK.out.mono ?_
  rintro e w4 ⟨B4, ⟨hbig, rfl⟩ | ⟨hsm, v, rfl, R4, _⟩⟩
  · go_wp2_with fail
    go_ret
    exact ⟨rfl, HB3.out.trans (B4.mono HB3.out.size)⟩
  have GO := hide (prg_goes t hf.out hsm)
  have AL := hide (fun B i h => RcI.all hf.out (B := B) (i := i) h)
  have hn2 : 2 ≤ (prg t).n := by rw [prg_n]; have := (cdT t).pos; omega
  have hlen := (prg t).len 0 0
  obtain ⟨nn, hnn⟩ : ∃ nn, (prg t).n = nn := ⟨_, rfl⟩
  rw [hnn] at AL hlen hsm hn2
  generalize (prg t).put 0 0 = L at *
  subst hlen
  replace hnn := hide hnn
  obtain ⟨ad, cp, rfl⟩ := R4.val
  have HB4 := hide (HB3.out.trans (B4.mono HB3.out.size))
  replace R4 := hide R4
  clear B4 MK T hf HB3 B3
  have m0 := trivial
  go_wp2_with (first | ((with_reducible refine at_make 47 ?_); refine wl_make47 (n := L.length) (by omega) rfl rfl ?_; intro gs w5 hgs hrow5 hs5 B5; have H5 : St (fun k => k = gs) w5 w5 [(true, gs, 4, bolA (List.replicate L.length false))] := ⟨But.refl _ _, fun x hx => by rw [List.mem_singleton.1 hx]; exact hrow5, fun x hx _ _ => by rw [List.mem_singleton.1 hx], by simp⟩; replace hrow5 := hide hrow5; replace hgs := hide hgs; have R5 := hide (R4.out.below B5); have HB5 := hide (HB4.out.trans (B5.mono HB4.out.size)); replace B5 := hide B5) | ((with_reducible refine at_bs48o ?_); refine wl_bs48o H5 rfl ?_; clear H5; intro gq w6 H6))
  have hLb : Hid (∀ b, (Value.slice ad L.length cp).ownBlock = some b → b < w5.heap.size ∧ b ≠ gs) := fun b hb => by
    have h1 := (R4.out.lt hb)
    have h2 := hgs.out
    have h3 := hs5
    exact ⟨by omega, by omega⟩
  have hfin : Hid (∀ w', But (fun k => k = gs) w5 w' → Below w.heap.size w w') := fun w' hb => HB5.out.trans (hb.below HB5.out.size (fun k e => by have h2 := hgs.out; have h3 := HB4.out.size; omega))
  have RI6 : Hid (∀ w', But (fun k => k = gs) w5 w' → RI w' (.slice ad L.length cp) L) := fun w' hb => R5.out.kept (fun b hb1 hb2 => hb.block b hb1 (hLb.out b hb2).2)
  replace H6 := hide H6
  have i3n : wrap64 (3 * (L.length : Int)) = 3 * (L.length : Int) := w64 _ (by omega)
  go_loopw [6, 7] (fun vq iv ws => ∃ (i : Nat) (q : List Int) (g : Nat) (cur : Array Value) (B : List Bool), iv = .int .i64 (i : Int) ∧ Hid (QuP vq g cur q) ∧ Hid (St (fun k => k = gs) w5 ws [(true, g, 3, cur), (true, gs, 4, bolA B)]) ∧ Hid (RcI L B q i) ∧ i ≤ 6144) (fun _ iv _ => 6200 - (RowKit.intOf iv).toNat)
  case atStart => exact ⟨0, [0], gq, #[.int .i64 0], List.replicate L.length false, rfl, ⟨0, 1, rfl, Nat.le_refl _, Nat.le_refl _, fun i z hz => by
      have hi : i = 0 := by have := (List.getElem?_eq_some_iff.1 hz).1; simpa using this
      subst hi
      simpa using hz⟩, H6, RcI.start (by omega), Nat.zero_le _⟩
  case round =>
    obtain ⟨i, q, g, cur, B, rfl, hq, Hr, hI, hi6⟩ := hrel
    have hleft := hI.out.left hn2
    have i1 : (i : Int) < 3 * (L.length : Int) := by omega
    cases q with
    | nil =>
      obtain ⟨o, c, rfl, _⟩ := hq.out.ex
      have hall := hide (AL.out B i hI.out)
      have HrB := hide (hfin.out wr Hr.out.but)
      simp only [List.length_nil]
      go_wp2_with fail
      go_loop [9] (fun kv => ∃ k : Nat, k ≤ L.length ∧ kv = .int .i64 (k : Int)) (fun kv => L.length - (RowKit.intOf kv).toNat)
      case atStart => exact ⟨0, Nat.zero_le _, rfl⟩
      case round =>
        obtain ⟨k, hk, rfl⟩ := hrel
        by_cases hkl : k < L.length
        · have j1 : (k : Int) < (L.length : Int) := Int.ofNat_lt.2 hkl
          have cS := Hr.out.cell 1 k rfl (bolA_at (hall.out k hkl))
          have hklH := hide hkl
          go_wp2_with fail
          go_round
          case rel => exact ⟨k + 1, hklH.out, by go_num⟩
          case measure => have := hklH.out; simp [RowKit.intOf]; omega
        · have j1 : ¬ ((k : Int) < (L.length : Int)) := by omega
          go_wp2_with fail
          go_ret
          exact ⟨rfl, HrB.out⟩
    | cons z q =>
      obtain ⟨hz0, hz1⟩ := hI.out.qin z (by simp)
      obtain ⟨zn, rfl⟩ := Int.eq_ofNat_of_zero_le hz0
      have hzl : zn < L.length := by omega
      obtain ⟨x, hx⟩ : ∃ x, L[zn]? = some x := ⟨_, List.getElem?_eq_getElem hzl⟩
      obtain ⟨gl, cl, hadv, _, _⟩ := R5.out.at hx
      obtain ⟨rfl, rfl⟩ : ad = some ⟨gl, 0, none⟩ ∧ cp = cl := by simpa using hadv
      have hcells : Hid (∀ w', But (fun k => k = gs) w5 w' → ∀ j u, (insA x)[j]? = some u → w'.cell? ⟨gl, zn * 7 + j, none⟩ = some u) := fun w' hb j u hj => by
        obtain ⟨g', c', e1, _, e2⟩ := (RI6.out w' hb).at hx
        obtain ⟨e3, _⟩ : gl = g' ∧ cp = c' := by simpa using e1
        subst e3
        exact e2 j u hj
      obtain ⟨o, c, hv, hc0, hlc, hp1, hp2⟩ := hq.out.pop
      subst hv
      have cz := Hr.out.cell 0 o rfl hc0
      have hqlen : q.length ≤ 9000 := by
        have h1 := hI.out.cnt
        have h2 := List.count_le_length (a := true) (l := B)
        have h3 := hI.out.bl
        simp only [List.length_cons] at h1
        omega
      have hlc1 : ((q.length + 1 : Nat) : Int) ≤ (c : Int) := by omega
      have hql : (0 : Int) < ((q.length + 1 : Nat) : Int) := by omega
      have hc1 : (1 : Int) ≤ (c : Int) := by omega
      have hc1n : 1 ≤ c := by omega
      have z1 : ¬ ((zn : Int) < 0) := by omega
      have z1b : decide ((zn : Int) < 0) = false := decide_eq_false z1
      have z2 : ¬ ((L.length : Int) ≤ (zn : Int)) := by omega
      have z2b : decide ((L.length : Int) ≤ (zn : Int)) = false := decide_eq_false z2
      have z3 : (zn : Int) < (L.length : Int) := by omega
      have hBl : zn < B.length := by rw [hI.out.bl]; exact hzl
      obtain ⟨bb, hB⟩ : ∃ bb, B[zn]? = some bb := ⟨_, List.getElem?_eq_getElem hBl⟩
      have cS := Hr.out.cell 1 zn rfl (bolA_at hB)
      have hnew := hide (fun (h : B[zn]? = some false) => hI.out.new (z := (zn : Int)) h hx GO.out)
      have hold := hide (fun (h : B[zn]? = some true) => hI.out.old (z := (zn : Int)) h)
      have hi7 : i + 1 ≤ 6144 := by omega
      have d0 := hcells.out wr Hr.out.but 0 (.int .i64 x.op) rfl
      rw [Nat.add_zero] at d0
      replace hp2 := hide hp2
      replace hp1 := hide hp1
      replace hx := hide hx
      replace hB := hide hB
      replace hc0 := hide hc0
      replace hadv := hide hadv
      clear hz0 hz1 d0
      by_cases hc : c = 1
      · subst hc
        obtain rfl : q = [] := List.eq_nil_of_length_eq_zero (by omega)
        have hp2' : Hid (QuP (.slice (some ⟨g, o, none⟩) 0 0) g cur []) := hp2.out rfl
        clear hp1 hp2 hlc hlc1 hql hc1 hc1n hqlen
        have hqlen : ([] : List Int).length ≤ 9000 := Nat.zero_le _
        simp only [List.length_nil, Nat.zero_add]
        cases bb with
        | true =>
          go_wp2_with fail
          go_roundw
          case rel => exact ⟨i + 1, [], g, cur, B, by go_num, hp2', Hr, hold.out hB.out, hi7⟩
          case measure => simp [RowKit.intOf]; omega
        | false =>
          by_cases h3 : x.op = 3
          case pos =>
            have e3 : x.op = 3 := h3
            go_wp2_with (first | ((with_reducible refine at_store 4 ?_); refine wl_store1 1 zn 4 (v := .bool true) Hr.out rfl rfl rfl (by rw [bolA_size]; exact hBl) one4 rfl ?_; intro w7 H7; have H7' : St (fun k => k = gs) w5 w7 [(true, g, 3, cur), (true, gs, 4, bolA (B.set zn true))] := (by rw [← bolA_set]; exact H7); have d0 := hcells.out w7 H7'.but 0 (.int .i64 3) (by simp [insA, h3]); rw [Nat.add_zero] at d0; have d5 := hcells.out w7 H7'.but 5 (.int .i64 x.x) rfl; clear H7))
            go_roundw
            case rel => exact ⟨i + 1, [], _, _, B.set zn true, by go_num, hp2', H7', (show RcI L (B.set zn true) ([]) (i + 1) by have h := hnew.out hB.out; simpa [nxt, h3] using h), hi7⟩
            case measure => simp [RowKit.intOf]; omega
          have h3b : (x.op == 3) = false := by simpa using h3
          by_cases h2 : x.op = 2
          case pos =>
            have e2 : x.op = 2 := h2
            go_wp2_with (first | ((with_reducible refine at_store 4 ?_); refine wl_store1 1 zn 4 (v := .bool true) Hr.out rfl rfl rfl (by rw [bolA_size]; exact hBl) one4 rfl ?_; intro w7 H7; have H7' : St (fun k => k = gs) w5 w7 [(true, g, 3, cur), (true, gs, 4, bolA (B.set zn true))] := (by rw [← bolA_set]; exact H7); have d0 := hcells.out w7 H7'.but 0 (.int .i64 2) (by simp [insA, h2]); rw [Nat.add_zero] at d0; have d5 := hcells.out w7 H7'.but 5 (.int .i64 x.x) rfl; clear H7) | ((with_reducible refine at_push ?_); clear m0; refine wl_push (z := x.x) H7' hp2'.out (Nat.le_trans hqlen (by decide)) (fun _ => rfl) (fun _ => rfl) rfl ?_; intro u8' v8 w8 g8 cur8 H8 Q8; clear d0 d5; have d0 := hcells.out w8 H8.but 0 (.int .i64 2) (by simp [insA, h2]); rw [Nat.add_zero] at d0; have d6 := hcells.out w8 H8.but 6 (.int .i64 x.y) rfl; replace Q8 := hide Q8) | ((with_reducible refine at_push ?_); refine wl_push (z := x.y) H8 Q8.out (by simp) (fun _ => rfl) (fun _ => rfl) rfl ?_; intro u9' v9 w9 g9 cur9 H9 Q9; clear d0 d6; replace Q9 := hide Q9))
            go_roundw
            case rel => exact ⟨i + 1, [] ++ [x.x] ++ [x.y], _, _, B.set zn true, by go_num, Q9, H9, (show RcI L (B.set zn true) ([] ++ [x.x] ++ [x.y]) (i + 1) by have h := hnew.out hB.out; simpa [nxt, h2] using h), hi7⟩
            case measure => simp [RowKit.intOf]; omega
          have h2b : (x.op == 2) = false := by simpa using h2
          have e9 : True := trivial
          go_wp2_with (first | ((with_reducible refine at_store 4 ?_); refine wl_store1 1 zn 4 (v := .bool true) Hr.out rfl rfl rfl (by rw [bolA_size]; exact hBl) one4 rfl ?_; intro w7 H7; have H7' : St (fun k => k = gs) w5 w7 [(true, g, 3, cur), (true, gs, 4, bolA (B.set zn true))] := (by rw [← bolA_set]; exact H7); have d0 := hcells.out w7 H7'.but 0 (.int .i64 x.op) rfl; rw [Nat.add_zero] at d0; have d5 := hcells.out w7 H7'.but 5 (.int .i64 x.x) rfl; clear H7) | ((with_reducible refine at_push ?_); clear m0; refine wl_push (z := x.x) H7' hp2'.out (Nat.le_trans hqlen (by decide)) (fun _ => rfl) (fun _ => rfl) rfl ?_; intro u8' v8 w8 g8 cur8 H8 Q8; clear d0 d5; have d0 := hcells.out w8 H8.but 0 (.int .i64 x.op) rfl; rw [Nat.add_zero] at d0; have d6 := hcells.out w8 H8.but 6 (.int .i64 x.y) rfl; replace Q8 := hide Q8))
          go_roundw
          case rel => exact ⟨i + 1, [] ++ [x.x], _, _, B.set zn true, by go_num, Q8, H8, (show RcI L (B.set zn true) ([] ++ [x.x]) (i + 1) by have h := hnew.out hB.out; simpa [nxt, h3, h2] using h), hi7⟩
          case measure => simp [RowKit.intOf]; omega
      · have hcb : ¬ ((c : Int) = 1) := by omega
        have hcc : ((c : Int) == 1) = false := by simpa using hcb
        cases bb with
        | true =>
          go_wp2_with fail
          go_roundw
          case rel => exact ⟨i + 1, q, g, cur, B, by go_num, hp1.out, Hr, hold.out hB.out, hi7⟩
          case measure => simp [RowKit.intOf]; omega
        | false =>
          by_cases h3 : x.op = 3
          case pos =>
            have e3 : x.op = 3 := h3
            go_wp2_with (first | ((with_reducible refine at_store 4 ?_); refine wl_store1 1 zn 4 (v := .bool true) Hr.out rfl rfl rfl (by rw [bolA_size]; exact hBl) one4 rfl ?_; intro w7 H7; have H7' : St (fun k => k = gs) w5 w7 [(true, g, 3, cur), (true, gs, 4, bolA (B.set zn true))] := (by rw [← bolA_set]; exact H7); have d0 := hcells.out w7 H7'.but 0 (.int .i64 3) (by simp [insA, h3]); rw [Nat.add_zero] at d0; have d5 := hcells.out w7 H7'.but 5 (.int .i64 x.x) rfl; clear H7))
            go_roundw
            case rel => exact ⟨i + 1, q, _, _, B.set zn true, by go_num, hp1.out, H7', (show RcI L (B.set zn true) (q) (i + 1) by have h := hnew.out hB.out; simpa [nxt, h3] using h), hi7⟩
            case measure => simp [RowKit.intOf]; omega
          have h3b : (x.op == 3) = false := by simpa using h3
          by_cases h2 : x.op = 2
          case pos =>
            have e2 : x.op = 2 := h2
            go_wp2_with (first | ((with_reducible refine at_store 4 ?_); refine wl_store1 1 zn 4 (v := .bool true) Hr.out rfl rfl rfl (by rw [bolA_size]; exact hBl) one4 rfl ?_; intro w7 H7; have H7' : St (fun k => k = gs) w5 w7 [(true, g, 3, cur), (true, gs, 4, bolA (B.set zn true))] := (by rw [← bolA_set]; exact H7); have d0 := hcells.out w7 H7'.but 0 (.int .i64 2) (by simp [insA, h2]); rw [Nat.add_zero] at d0; have d5 := hcells.out w7 H7'.but 5 (.int .i64 x.x) rfl; clear H7) | ((with_reducible refine at_push ?_); clear m0; refine wl_push (z := x.x) H7' (hp1.out) (Nat.le_trans hqlen (by decide)) (fun _ => rfl) (fun _ => rfl) rfl ?_; intro u8' v8 w8 g8 cur8 H8 Q8; clear d0 d5; have d0 := hcells.out w8 H8.but 0 (.int .i64 2) (by simp [insA, h2]); rw [Nat.add_zero] at d0; have d6 := hcells.out w8 H8.but 6 (.int .i64 x.y) rfl; replace Q8 := hide Q8) | ((with_reducible refine at_push ?_); refine wl_push (z := x.y) H8 Q8.out (by simp; omega) (fun _ => rfl) (fun _ => rfl) rfl ?_; intro u9' v9 w9 g9 cur9 H9 Q9; clear d0 d6; replace Q9 := hide Q9))
            go_roundw
            case rel => exact ⟨i + 1, q ++ [x.x] ++ [x.y], _, _, B.set zn true, by go_num, Q9, H9, (show RcI L (B.set zn true) (q ++ [x.x] ++ [x.y]) (i + 1) by have h := hnew.out hB.out; simpa [nxt, h2] using h), hi7⟩
            case measure => simp [RowKit.intOf]; omega
          have h2b : (x.op == 2) = false := by simpa using h2
          have e9 : True := trivial
          go_wp2_with (first | ((with_reducible refine at_store 4 ?_); refine wl_store1 1 zn 4 (v := .bool true) Hr.out rfl rfl rfl (by rw [bolA_size]; exact hBl) one4 rfl ?_; intro w7 H7; have H7' : St (fun k => k = gs) w5 w7 [(true, g, 3, cur), (true, gs, 4, bolA (B.set zn true))] := (by rw [← bolA_set]; exact H7); have d0 := hcells.out w7 H7'.but 0 (.int .i64 x.op) rfl; rw [Nat.add_zero] at d0; have d5 := hcells.out w7 H7'.but 5 (.int .i64 x.x) rfl; clear H7) | ((with_reducible refine at_push ?_); clear m0; refine wl_push (z := x.x) H7' (hp1.out) (Nat.le_trans hqlen (by decide)) (fun _ => rfl) (fun _ => rfl) rfl ?_; intro u8' v8 w8 g8 cur8 H8 Q8; clear d0 d5; have d0 := hcells.out w8 H8.but 0 (.int .i64 x.op) rfl; rw [Nat.add_zero] at d0; have d6 := hcells.out w8 H8.but 6 (.int .i64 x.y) rfl; replace Q8 := hide Q8))
          go_roundw
          case rel => exact ⟨i + 1, q ++ [x.x], _, _, B.set zn true, by go_num, Q8, H8, (show RcI L (B.set zn true) (q ++ [x.x]) (i + 1) by have h := hnew.out hB.out; simpa [nxt, h3, h2] using h), hi7⟩
          case measure => simp [RowKit.intOf]; omega
end Go.Proofs.YtkgegjnkkbgghaaDoor
