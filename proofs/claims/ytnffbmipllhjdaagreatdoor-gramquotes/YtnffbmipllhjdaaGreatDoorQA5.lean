/-
  What GramQuotes stands on, part 5 (of: Gj Gk Gl Gq Gx Gy Gz Ha Hb Hc Gm Gn Gr Gs Gt Gu Gv Gw Hd).
-/
import Derived.Test.YtnffbmipllhjdaaGreatDoorQA4
import Derived.Laws.IdiomStrings
import Derived.Maps.OwnSet
import Derived.OrdersHeld
namespace Go.Proofs.YtnffbmipllhjdaaGreatDoor.G
open Go.RowKit Go.Shelf
set_option linter.unusedVariables false
set_option linter.unusedSimpArgs false
attribute [local go_sem] Oper.semAt_some

theorem own85_below {w w' : World} {base n : Nat} {v : Value} {xs : List Value} (h : w.ownsRow base 85 5 v n xs) (hb : Below w.heap.size w w') : w'.ownsRow base 85 5 v n xs := by
  refine ⟨h.1, ?_⟩
  rcases h.2 with h1 | ⟨g, cap, cur, rfl, h2, h3, h4⟩
  · exact .inl h1
  · exact .inr ⟨g, cap, cur, rfl, h2, (hb.block g (Array.getElem?_eq_some_iff.1 h3).1).trans h3, h4⟩
/-- The last step of a function that answers a part by its box. -/
theorem ret85 {w w4 : World} {g2 : Nat} {P : Nat → Prop} {p : Pt} {b : Bool} {tv : Value} {o : Int} {t : Tx} {lv : Value} (h4 : w4.heap[g2]? = some (.cells (pA false nilS 0 [] nilS) 85 (0, 0))) (hb : Below w.heap.size w w4) (hg : w.heap.size ≤ g2) (hq : PaV w4 P (pV b tv o t lv) p) (hP : ¬ P g2) :
    PaV (w4.setRow g2 (pA b tv o t lv)) P (pV b tv o t lv) p ∧ Below w.heap.size w (w4.setRow g2 (pA b tv o t lv)) :=
  ⟨PaV.kept hq (fun b hb _ => setRow_other _ _ _ _ (fun e => hP (e ▸ hb))), hb.trans ⟨rfl, rfl, rfl, by simp, fun k hk => setRow_other _ _ _ _ (by omega)⟩⟩
set_option maxHeartbeats 8000000 in
set_option maxRecDepth 100000 in
theorem oneOf_any (l : List Pt) (hB : ∀ p ∈ l, PtB p) (hok : ∀ p ∈ l, p.asked.ok) (hsz : ((l.map Pt.asked).map Qy.sz).sum ≤ 100000) (hln : l.length ≤ 9000) (P : Nat → Prop) (v : Value) (zs : List Value) (w : World) (ho : w.ownsRow 0 85 5 v l.length zs) (hk : PaL w P l zs) (hP : ∀ b, P b → b < w.heap.size) :
    Calls Tryz.prog 78 #[v] w fun e w' => ∃ x, e = .returned x ∧ PaV w' (fun b => P b ∨ w.heap.size ≤ b) x (oneOf l) ∧ Below w.heap.size w w' := by
  obtain ⟨va, vc, rfl⟩ : ∃ va vc, v = .slice va l.length vc := by
    rcases ho.2 with ⟨rfl, h⟩ | ⟨g, cap, cur, rfl, _⟩
    · exact ⟨_, _, by rw [h]⟩
    · exact ⟨_, _, rfl⟩
  have UN := hide (fun (w' : World) (hb : Below w.heap.size w w') => united_any l hB P _ zs w' (own85_below ho hb) (hk.kept (fun b _ hl => hb.block b hl)) (fun b h => by have := hP b h; have := hb.size; omega) (by omega))
  have child := hide (fun k p h => part_nth ho hk k p h)
  replace hB := hide hB
  replace hP := hide hP
  replace hok := hide hok
  have H := St.start Nope w
  clear ho hk
  go_enter Tryz.func78, Tryz.ntmps78
  go_wp2_with (first | ((with_reducible refine at_alloc 85 ?_); refine wl_alloc85 H ?_; clear H; intro g2 w1 H q1 q2; have hb1 := H.below) | (go_at_call 132; refine (UN.out _ hb1).mono ?_))
  intro e w2 hR
  obtain ⟨B2, hcase⟩ := hR
  have hg2 := H.lti 0 rfl
  have H2 := H.call B2 (Nat.le_refl _)
  have h2g := hide (H2.get 0 rfl)
  have h2b := hide H2.below
  have s12 := hide B2.size
  rcases hcase with ⟨hn, rfl⟩ | ⟨ts, tv, hm, rfl, om⟩
  · have hfin : Hid (oneOf l = .ask (tg 4 (l.map Pt.asked))) := by show _ = _; unfold oneOf; rw [hn]
    have hPb : Hid (∀ b, P b → b < w2.heap.size) := fun b hb => by have := hP.out b hb; have := hb1.size; have := s12.out; omega
    have hg22 : g2 < w2.heap.size := by have := s12.out; omega
    have hws2 : w.heap.size ≤ w2.heap.size := by have := hb1.size; have := s12.out; omega
    have hH2 := hide H2
    clear H H2 B2 hn UN
    go_wp2
    go_loopw [5, 18] (fun lv iv wr => ∃ (k : Nat), k ≤ l.length ∧ iv = .int .i64 (k : Int) ∧ Hid (RqP wr w2.heap.size P lv (fq ((l.take k).map Pt.asked))) ∧ Hid (St Nope w wr [(true, g2, 85, pA false nilS 0 [] nilS)]) ∧ Hid (w2.heap.size ≤ wr.heap.size)) (fun _ iv _ => l.length - (intOf iv).toNat)
    case atStart => exact ⟨0, Nat.zero_le _, rfl, RqP.start _ _ _, hH2.out, Nat.le_refl _⟩
    case round =>
      obtain ⟨k, hk, rfl, R, H, hws⟩ := hrel
      by_cases hlt : k < l.length
      · have i3 : (k : Int) < (l.length : Int) := by omega
        obtain ⟨p, hp⟩ : ∃ p, l[k]? = some p := ⟨_, List.getElem?_eq_getElem hlt⟩
        obtain ⟨g, b, tv, o, t, lv, hva, hto, hlo, hpv, hld⟩ := child.out k p hp
        subst hva
        have hpB := hB.out p (List.mem_of_getElem? hp)
        have hbw := H.out.below
        have hl1 := hide (hld wr hbw)
        have AK := hide (fun (w' : World) (hb : Below w.heap.size w w') => ask_any p hpB P _ w' (hpv.kept (fun b _ hl => hb.block b hl)) (fun b h => by have := hP.out b h; have := hb.size; omega))
        have hxk : Hid ((fq ((l.take k).map Pt.asked)).snoc p.asked = fq ((l.take (k + 1)).map Pt.asked)) := by
          show _ = _
          rw [fq_snoc, List.take_add_one, hp]; simp
        have hfl2 : Hid ((fq ((l.take k).map Pt.asked)).len ≤ 1000000) := by
          show _ ≤ _
          rw [fq_len, List.length_map, List.length_take]; omega
        have HH := St.start Nope wr
        replace hp := hide hp
        clear hld hpv
        go_wp2_with (first | ((with_reducible refine at_load 85 ?_); refine wl_loadA 85 rfl hl1.out ?_) | ((with_reducible refine at_alloc 85 ?_); refine wl_alloc85 HH ?_; clear HH; intro g7 w7 HH q3 q4) | ((with_reducible refine at_store 85 ?_); refine wl_store85 0 (b' := b) (tv' := tv) (o' := o) (t' := t) (l' := lv) HH rfl rfl rfl hto hlo ?_; clear HH; intro w8 HH; have hb8r := HH.below; have hb8 := hbw.trans (hb8r.mono hbw.size); have h78 := hide (load85 (HH.get 0 rfl))) | ((with_reducible refine at_load 85 ?_); refine wl_loadA 85 rfl h78.out ?_) | (go_at_call 36; refine (AK.out _ hb8).mono ?_))
        rintro e w9 ⟨z, rfl, hq, B9⟩
        have b9r := hb8r.trans (B9.mono hb8r.size)
        have H9 := H.out.call b9r (Nat.le_refl _)
        have R9 := R.out.kept (fun b _ hl => b9r.block b hl)
        have lt9 := hide (fun k hk => Nat.lt_of_lt_of_le (R.out.top k hk) hb8r.size)
        have s28 := Nat.le_trans hws.out hb8r.size
        have s89 := B9.size
        have hqh := hide hq
        clear HH AK B9 hq R H b9r
        go_wp2_with ((with_reducible refine at_snocP ?_); refine wl_snocP (t := p.asked) H9 hPb.out R9 hqh.out (fun _ => rfl) (fun _ => rfl) rfl lt9.out s28 s89 hfl2.out (fun e he => by rw [List.mem_singleton.1 he]; exact hg22) hws2 ?_; intro u v5 w5 H5 R5 s5)
        rw [hxk.out] at R5
        have R5h := hide R5
        have H5h := hide H5
        have s5h : Hid (w2.heap.size ≤ w5.heap.size) := Nat.le_trans s28 (Nat.le_trans s89 s5)
        clear R5 H5 s5 H9 R9
        go_wp2
        go_roundw
        case rel => exact ⟨k + 1, by omega, by simp, R5h, H5h, s5h⟩
        case measure => simp [intOf]; omega
      · obtain rfl : k = l.length := by omega
        have i4 : ¬ ((l.length : Int) < (l.length : Int)) := by omega
        rw [List.take_of_length_le (Nat.le_refl _)] at R
        obtain ⟨zs, oo, kk, pp⟩ := RqP.row R.out
        have TG := hide (together_ok 4 (.inr rfl) (fun b => P b ∨ w2.heap.size ≤ b) _ _ zs _ (owns3_mono oo (Nat.zero_le _)) pp kk (fun q hq => by
          obtain ⟨s, hs, rfl⟩ := List.mem_map.1 hq
          exact hok.out s hs) (by omega))
        clear oo kk pp R
        go_wp2_with (go_at_call 131; refine TG.out.mono ?_)
        intro e w4 x he hq B4
        subst he
        have H4 := H.out.call B4 (Nat.le_refl _)
        have hq2 := hide (hq.mono (P' := fun b => P b ∨ w2.heap.size ≤ b) (fun b _ hb => by
          have := hws.out
          rcases hb with (h | h) | h
          · exact .inl h
          · exact .inr h
          · exact .inr (by omega)))
        obtain ⟨xa, xm, xc, rfl⟩ := hq2.out.slice
        have h4g := hide (H4.get 0 rfl)
        have h4b := hide H4.below
        clear TG hq B4 H4
        go_wp2_with (first | ((with_reducible refine at_build85 ?_); refine wl_val (run_build85_q _ (tg 4 (l.map Pt.asked)).op (tg 4 (l.map Pt.asked)).tx xa xm xc rfl _) ?_) | ((with_reducible refine at_store 85 ?_); refine wl_storeT 85 (v := pV false nilS (tg 4 (l.map Pt.asked)).op (tg 4 (l.map Pt.asked)).tx (.slice xa xm xc)) rfl rfl (store85r h4g.out rfl rfl) ?_))
        refine bodyPost_ret (results_cell0 rfl _ _ _ _ rfl (load85 (setRow_heap _ _ _ _ 85 (0, 0) h4g.out))) rfl ?_
        have hpv : PaV w4 (fun b => P b ∨ w2.heap.size ≤ b) (pV false nilS (tg 4 (l.map Pt.asked)).op (tg 4 (l.map Pt.asked)).tx (.slice xa xm xc)) (.ask (tg 4 (l.map Pt.asked))) := ⟨_, rfl, hq2.out⟩
        obtain ⟨r1, r2⟩ := ret85 h4g.out h4b.out q1 hpv (fun h => by
          rcases h with h | h
          · have := hP.out _ h; omega
          · omega)
        refine ⟨_, rfl, ?_, r2⟩
        rw [hfin.out]
        exact r1.mono (fun b _ hb => hb.imp id (fun h => by omega))
  · have hfin : Hid (oneOf l = .told ts) := by show _ = _; unfold oneOf; rw [hm]
    obtain ⟨ta, tc, rfl⟩ := row_slice om
    have omH := hide om
    clear H H2 B2 om hm child UN
    go_wp2_with (first | ((with_reducible refine at_build85 ?_); refine wl_val (run_build85_t _ ta ts.length tc rfl rfl _) ?_) | ((with_reducible refine at_store 85 ?_); refine wl_storeT 85 (v := pV true (.slice ta ts.length tc) 0 [] nilS) rfl rfl (store85r h2g.out rfl rfl) ?_))
    refine bodyPost_ret (results_cell0 rfl _ _ _ _ rfl (load85 (setRow_heap _ _ _ _ 85 (0, 0) h2g.out))) rfl ?_
    have hpv : PaV w2 (fun b => w1.heap.size ≤ b) (pV true (.slice ta ts.length tc) 0 [] nilS) (.told ts) := ⟨_, rfl, ownsT_mono omH.out (Nat.zero_le _), fun b hb => (ownT1_lt omH.out hb).1⟩
    obtain ⟨r1, r2⟩ := ret85 h2g.out h2b.out q1 hpv (fun h => by omega)
    refine ⟨_, rfl, ?_, r2⟩
    rw [hfin.out]
    exact r1.mono (fun b _ hb => .inr (by have := hb1.size; omega))
end Go.Proofs.YtnffbmipllhjdaaGreatDoor.G

namespace Go.Proofs.YtnffbmipllhjdaaGreatDoor.G
open Go.RowKit Go.Shelf
set_option linter.unusedVariables false
set_option linter.unusedSimpArgs false
attribute [local go_sem] Oper.semAt_some

/-- The texts of one byte of the set, up to k. -/
def setTo (s : S4) (k : Nat) : List Tx := ((List.range k).filter (fun b => inS s b)).map (fun b => [UInt8.ofNat b])
def setPt (s : S4) : Pt := if 8 < (setTo s 256).length then .ask allQ else .told (setTo s 256)
theorem setTo_step (s : S4) (k : Nat) : setTo s (k + 1) = if inS s k = true then setTo s k ++ [[UInt8.ofNat k]] else setTo s k := by
  unfold setTo
  rw [List.range_succ, List.filter_append, List.map_append]
  by_cases h : inS s k = true <;> simp [h]
theorem setTo_len (s : S4) (k : Nat) : (setTo s k).length ≤ k := by
  unfold setTo
  rw [List.length_map]
  exact Nat.le_trans (List.length_filter_le _ _) (by simp)
theorem convByte (k : Nat) (hk : k < 256) (w : World) : (convert 131 9 (.slice (some ⟨w.heap.size, 0, none⟩) 1 1)).run Tryz.prog (w.alloc (.cells #[.int .u8 (k : Int)] 5)) = .ok (.string ⟨[UInt8.ofNat k].toArray⟩) (w.alloc (.cells #[.int .u8 (k : Int)] 5)) := by
  refine run_convert_bytes_back (P := Tryz.prog) _ 131 9 5 ⟨w.heap.size, 0, none⟩ 1 [UInt8.ofNat k] Tryz.underlying131 Tryz.underlying5 Tryz.underlying9 (fun j hj => ?_)
  obtain rfl : j = 0 := by simpa using hj
  rw [add_plain, cell_of_row _ _ _ _ _ _ (heap_alloc_new w _)]
  have : (UInt8.ofNat k).toNat = k := by simp; omega
  simp [this]
set_option maxHeartbeats 2000000 in
set_option maxRecDepth 100000 in
theorem partOfSet_any (s : S4) (hs : OkS s) (w : World) :
    Calls Tryz.prog 80 #[setV s] w fun e w' => ∃ x, e = .returned x ∧ PaV w' (fun b => w.heap.size ≤ b) x (setPt s) ∧ Below w.heap.size w w' := by
  have H := St.start Nope w
  go_enter Tryz.func80, Tryz.ntmps80
  go_wp2_with (first | ((with_reducible refine at_box 24 ?_); refine wl_box25 (s := s) H rfl ?_; clear H; intro g1 w1 H q1 q2) | ((with_reducible refine at_alloc 85 ?_); refine wl_alloc85 H ?_; clear H; intro g2 w2 H q3 q4))
  have hg2 := H.lti 0 rfl
  have hg1 := H.lti 1 rfl
  have hw2 := H.below.size
  go_loopw [3, 5] (fun lv iv wr => ∃ (k : Nat), k ≤ 256 ∧ iv = .int .i64 (k : Int) ∧ Hid (wr.ownsRow w2.heap.size 9 1 lv (setTo s k).length ((setTo s k).map encStr)) ∧ Hid (St Nope w wr [(true, g2, 85, pA false nilS 0 [] nilS), (true, g1, 24, setA s)]) ∧ Hid (w2.heap.size ≤ wr.heap.size)) (fun _ iv _ => 256 - (intOf iv).toNat)
  case atStart => exact ⟨0, Nat.zero_le _, rfl, ⟨rfl, .inl ⟨rfl, rfl⟩⟩, H, Nat.le_refl _⟩
  case round =>
    clear H
    obtain ⟨k, hk, rfl, R, H, hws⟩ := hrel
    by_cases hlt : k < 256
    · have i3 : (k : Int) < 256 := by omega
      have i4 : (k : Int) % 256 = (k : Int) := by omega
      have HA := hide (fun w' => has86 s hs k hlt w')
      have HH := H.out
      cases hin : inS s k with
      | false =>
        rw [hin] at HA
        go_wp2_with (first | ((with_reducible refine at_load 24 ?_); refine wl_load25 1 HH rfl rfl ?_) | (go_at_call 134; refine (HA.out _).mono ?_))
        rintro e w4 ⟨rfl, B4⟩
        have R4 : Hid (w4.ownsRow w2.heap.size 9 1 u3 (setTo s (k + 1)).length ((setTo s (k + 1)).map encStr)) := by
          show World.ownsRow _ _ _ _ _ _ _
          rw [setTo_step, if_neg (by rw [hin]; exact Bool.false_ne_true)]
          exact ownsT_of_block R.out (fun j hj => B4.block j (ownT1_lt R.out hj).2)
        have H4 := hide (H.out.call B4 (Nat.le_refl _))
        have s4 : Hid (w2.heap.size ≤ w4.heap.size) := Nat.le_trans hws.out B4.size
        clear R H HH B4
        go_wp2
        go_roundw
        case rel => exact ⟨k + 1, by omega, by simp, R4, H4, s4⟩
        case measure => simp [intOf]; omega
      | true =>
        rw [hin] at HA
        go_wp2_with (first | ((with_reducible refine at_load 24 ?_); refine wl_load25 1 HH rfl rfl ?_) | (go_at_call 134; refine (HA.out _).mono ?_))
        rintro e w4 ⟨rfl, B4⟩
        have hcv := convByte k hlt w4
        have B6 : Below w4.heap.size w4 ((w4.alloc (.cells #[.int .u8 (k : Int)] 5)).alloc (.cells #[.string ⟨[UInt8.ofNat k].toArray⟩] 9)) := ((Below.refl _ w4).alloc (Nat.le_refl _) _).alloc (by simp) _
        have O6 := hide (ownsT_of_block (w' := (w4.alloc (.cells #[.int .u8 (k : Int)] 5)).alloc (.cells #[.string ⟨[UInt8.ofNat k].toArray⟩] 9)) R.out (fun j hj => (B6.block j (by have := (ownT1_lt R.out hj).2; have := B4.size; omega)).trans (B4.block j (ownT1_lt R.out hj).2)))
        have U6 : Hid (((w4.alloc (.cells #[.int .u8 (k : Int)] 5)).alloc (.cells #[.string ⟨[UInt8.ofNat k].toArray⟩] 9)).ownsRow 0 9 1 (.slice (some ⟨w4.heap.size + 1, 0, none⟩) 1 1) [[UInt8.ofNat k]].length ([[UInt8.ofNat k]].map encStr)) := by
          have h := heap_alloc_new (w4.alloc (.cells #[.int .u8 (k : Int)] 5)) (.cells #[.string ⟨[UInt8.ofNat k].toArray⟩] 9)
          rw [World.size_alloc] at h
          exact ⟨rfl, .inr ⟨_, 1, _, rfl, Nat.zero_le _, h, Nat.le_refl _, by unfold maxLen; omega, rfl, rfl⟩⟩
        have hnn : (setTo s k).length + [[UInt8.ofNat k]].length ≤ 1000000 := by have := setTo_len s k; simp; omega
        have s6 : w2.heap.size ≤ ((w4.alloc (.cells #[.int .u8 (k : Int)] 5)).alloc (.cells #[.string ⟨[UInt8.ofNat k].toArray⟩] 9)).heap.size := by have := hws.out; have := B4.size; simp; omega
        have b06 := hide (B4.trans (B6.mono B4.size))
        have hst : Hid (setTo s k ++ [[UInt8.ofNat k]] = setTo s (k + 1)) := by show _ = _; rw [setTo_step, if_pos hin]
        replace B4 := hide B4
        replace B6 := hide B6
        clear HH HA
        go_wp2_with ((with_reducible refine at_appT ?_); refine wl_appT rfl rfl O6.out U6.out hnn s6 ?_; intro v8 w8 o8 B8; replace o8 := hide o8; replace B8 := hide B8)
        rw [hst.out] at o8
        have H6 := H.out.call b06.out (Nat.le_refl _)
        have H8 : Hid (St Nope w w8 [(true, g2, 85, pA false nilS 0 [] nilS), (true, g1, 24, setA s)]) := by
          refine ⟨H6.but.trans (T := fun k => w2.heap.size ≤ k) (but_of_below B8.out _ (fun k _ h => h)) (fun i hi h => by omega), fun y hy => ?_, H6.ok, H6.nd⟩
          have hl : y.2.1 < w2.heap.size := by
            simp only [List.mem_cons, List.not_mem_nil, or_false] at hy
            rcases hy with rfl | rfl
            · exact hg2
            · exact hg1
          rw [B8.out.block _ hl]
          exact H6.all y hy
        have s8 : Hid (w2.heap.size ≤ w8.heap.size) := Nat.le_trans s6 B8.out.size
        clear H6 R H s6
        go_wp2
        go_roundw
        case rel => exact ⟨k + 1, by omega, by simp, o8, H8, s8⟩
        case measure => simp [intOf]; omega
    · obtain rfl : k = 256 := by omega
      obtain ⟨ta, tc, hta⟩ := row_slice R.out
      have hl256 := setTo_len s 256
      have h4g := hide (H.out.get 0 rfl)
      have h4b := hide H.out.below
      by_cases hbig : 8 < (setTo s 256).length
      · have i5 : (8 : Int) < ((setTo s 256).length : Int) := by omega
        have hfin : Hid (setPt s = .ask allQ) := by show _ = _; unfold setPt; rw [if_pos hbig]
        subst hta
        generalize (setTo s 256).length = m at *
        clear R H
        go_wp2_with (first | ((with_reducible refine at_build30 ?_); refine wl_val (run_build30_0 _ 0 rfl _) ?_) | ((with_reducible refine at_build85 ?_); refine wl_val (run_build85_q _ 0 [] none 0 0 rfl _) ?_) | ((with_reducible refine at_store 85 ?_); refine wl_storeT 85 (v := pV false nilS 0 [] nilS) rfl rfl (store85r h4g.out rfl rfl) ?_))
        refine bodyPost_ret (results_cell0 rfl _ _ _ _ rfl (load85 (setRow_heap _ _ _ _ 85 (0, 0) h4g.out))) rfl ?_
        have hpv : PaV wr (fun b => w2.heap.size ≤ b) (pV false nilS 0 [] nilS) (.ask allQ) := ⟨nilS, rfl, nilS, [], rfl, ⟨rfl, .inl ⟨rfl, rfl⟩⟩, fun b hb => (by cases hb), rfl⟩
        obtain ⟨r1, r2⟩ := ret85 h4g.out h4b.out q3 hpv (fun h => by omega)
        refine ⟨_, rfl, ?_, r2⟩
        rw [hfin.out]
        exact r1.mono (fun b _ hb => by omega)
      · have i5 : ¬ (8 : Int) < ((setTo s 256).length : Int) := by omega
        have hfin : Hid (setPt s = .told (setTo s 256)) := by show _ = _; unfold setPt; rw [if_neg hbig]
        subst hta
        have RH := hide R.out
        clear R H
        go_wp2_with (first | ((with_reducible refine at_build85 ?_); refine wl_val (run_build85_t _ ta (setTo s 256).length tc rfl rfl _) ?_) | ((with_reducible refine at_store 85 ?_); refine wl_storeT 85 (v := pV true (.slice ta (setTo s 256).length tc) 0 [] nilS) rfl rfl (store85r h4g.out rfl rfl) ?_))
        refine bodyPost_ret (results_cell0 rfl _ _ _ _ rfl (load85 (setRow_heap _ _ _ _ 85 (0, 0) h4g.out))) rfl ?_
        have hpv : PaV wr (fun b => w2.heap.size ≤ b) (pV true (.slice ta (setTo s 256).length tc) 0 [] nilS) (.told (setTo s 256)) := ⟨_, rfl, ownsT_mono RH.out (Nat.zero_le _), fun b hb => (ownT1_lt RH.out hb).1⟩
        obtain ⟨r1, r2⟩ := ret85 h4g.out h4b.out q3 hpv (fun h => by omega)
        refine ⟨_, rfl, ?_, r2⟩
        rw [hfin.out]
        exact r1.mono (fun b _ hb => by omega)
end Go.Proofs.YtnffbmipllhjdaaGreatDoor.G

namespace Go.Proofs.YtnffbmipllhjdaaGreatDoor.G
open Go.RowKit Go.Shelf
set_option linter.unusedVariables false
set_option linter.unusedSimpArgs false
attribute [local go_sem] Oper.semAt_some

set_option maxHeartbeats 2000000 in
set_option maxRecDepth 100000 in
theorem isFit_ok (o : Int) (t : Tx) (va : Option Addr) (m c : Nat) (h : ((o = 0 ∨ o = 1) ∧ t = [] ∧ m = 0) ∨ (o = 2 ∧ t.length = 3 ∧ m = 0) ∨ ((o = 3 ∨ o = 4) ∧ t = [])) (w : World) :
    Calls Tryz.prog 46 #[qV o t (.slice va m c)] w fun e w' => e = .returned (.bool true) ∧ Below w.heap.size w w' := by
  have H := St.start Nope w
  rcases h with ⟨ho, rfl, rfl⟩ | ⟨rfl, ht, rfl⟩ | ⟨ho, rfl⟩
  · rcases ho with rfl | rfl
    · go_enter Tryz.func46, Tryz.ntmps46
      go_wp2_with ((with_reducible refine at_box 30 ?_); refine wl_box30 H rfl ?_; clear H; intro g1 w1 H q1 q2; have c0 := H.cell 0 0 rfl (v := .int .i64 0) rfl; have c1 := H.cell 0 1 rfl (v := .string ⟨#[]⟩) rfl; have c2 := H.cell 0 2 rfl (v := .slice va 0 c) rfl; have hb := hide H.below; clear H)
      go_ret
      exact ⟨rfl, hb.out⟩
    · go_enter Tryz.func46, Tryz.ntmps46
      go_wp2_with ((with_reducible refine at_box 30 ?_); refine wl_box30 H rfl ?_; clear H; intro g1 w1 H q1 q2; have c0 := H.cell 0 0 rfl (v := .int .i64 1) rfl; have c1 := H.cell 0 1 rfl (v := .string ⟨#[]⟩) rfl; have c2 := H.cell 0 2 rfl (v := .slice va 0 c) rfl; have hb := hide H.below; clear H)
      go_ret
      exact ⟨rfl, hb.out⟩
  · obtain ⟨S, hS⟩ : ∃ S : ByteArray, S = ⟨t.toArray⟩ := ⟨_, rfl⟩
    have hSz : S.size = 3 := by rw [hS]; simpa [ByteArray.size] using ht
    go_enter Tryz.func46, Tryz.ntmps46
    go_wp2_with ((with_reducible refine at_box 30 ?_); refine wl_box30 H rfl ?_; clear H; intro g1 w1 H q1 q2; have c0 := H.cell 0 0 rfl (v := .int .i64 2) rfl; have c1 := H.cell 0 1 rfl (v := .string ⟨t.toArray⟩) rfl; have c2 := H.cell 0 2 rfl (v := .slice va 0 c) rfl; rw [← hS] at c1; replace hS := hide hS; have hb := hide H.below; clear H)
    go_ret
    exact ⟨rfl, hb.out⟩
  · rcases ho with rfl | rfl
    · go_enter Tryz.func46, Tryz.ntmps46
      go_wp2_with ((with_reducible refine at_box 30 ?_); refine wl_box30 H rfl ?_; clear H; intro g1 w1 H q1 q2; have c0 := H.cell 0 0 rfl (v := .int .i64 3) rfl; have c1 := H.cell 0 1 rfl (v := .string ⟨#[]⟩) rfl; have hb := hide H.below; clear H)
      go_ret
      exact ⟨rfl, hb.out⟩
    · go_enter Tryz.func46, Tryz.ntmps46
      go_wp2_with ((with_reducible refine at_box 30 ?_); refine wl_box30 H rfl ?_; clear H; intro g1 w1 H q1 q2; have c0 := H.cell 0 0 rfl (v := .int .i64 4) rfl; have c1 := H.cell 0 1 rfl (v := .string ⟨#[]⟩) rfl; have hb := hide H.below; clear H)
      go_ret
      exact ⟨rfl, hb.out⟩
end Go.Proofs.YtnffbmipllhjdaaGreatDoor.G

namespace Go.Proofs.YtnffbmipllhjdaaGreatDoor.G
open Go.RowKit Go.Shelf
set_option linter.unusedVariables false
set_option linter.unusedSimpArgs false
attribute [local go_sem] Oper.semAt_some

/-- A query, without its members. -/
structure Qn where
  o : Int
  t : Tx
def Qf.nth : Qf → Nat → Qn × Qf
  | .nil, _ => (⟨0, []⟩, .nil)
  | .cons o t k _, 0 => (⟨o, t⟩, k)
  | .cons _ _ _ r, i + 1 => r.nth i
def szQ (t : Qn × Qf) : Nat := 1 + t.2.sz
def Qf.szTo (f : Qf) : Nat → Nat
  | 0 => 0
  | i + 1 => f.szTo i + szQ (f.nth i)
theorem qszTo_cons (o : Int) (t : Tx) (k r : Qf) : ∀ i, (Qf.cons o t k r).szTo (i + 1) = szQ (⟨o, t⟩, k) + r.szTo i
  | 0 => by simp [Qf.szTo, Qf.nth]
  | i + 1 => by rw [Qf.szTo, qszTo_cons o t k r i]; simp [Qf.szTo, Qf.nth]; omega
theorem qszTo_len : ∀ f : Qf, f.szTo f.len = f.sz
  | .nil => rfl
  | .cons o t k r => by rw [Qf.len, qszTo_cons, qszTo_len r]; simp [szQ, Qf.sz]
theorem qszTo_le (f : Qf) : ∀ i, i ≤ f.len → f.szTo i ≤ f.sz := by
  have mono : ∀ j i, f.szTo i ≤ f.szTo (i + j) := fun j => by
    induction j with
    | zero => intro i; exact Nat.le_refl _
    | succ j ih => intro i; have := ih i; show _ ≤ f.szTo (i + j) + _; omega
  intro i hi
  have := mono (f.len - i) i
  rw [show i + (f.len - i) = f.len by omega, qszTo_len] at this
  exact this
/-- Each one of a list has the property, at its depth. -/
def AllQ (Pr : Nat → Qn → Nat → Prop) : Nat → Qf → Prop
  | _, .nil => True
  | d, .cons o t k r => Pr d ⟨o, t⟩ k.len ∧ AllQ Pr (d + 1) k ∧ AllQ Pr d r
theorem AllQ.nth {Pr : Nat → Qn → Nat → Prop} {d : Nat} : ∀ {f : Qf}, AllQ Pr d f → ∀ i, i < f.len → Pr d (f.nth i).1 (f.nth i).2.len ∧ AllQ Pr (d + 1) (f.nth i).2
  | .nil, _, i, h => by simp [Qf.len] at h
  | .cons o t k r, ⟨h1, h2, h3⟩, 0, _ => ⟨h1, h2⟩
  | .cons o t k r, ⟨h1, h2, h3⟩, i + 1, h => AllQ.nth h3 i (by simpa [Qf.len] using h)
theorem Kq.nthQ {w : World} {P : Nat → Prop} : ∀ {f : Qf} {xs : List Value}, Kq w P f xs → ∀ i, i < f.len → ∃ v zs, (∀ j u, (qA (f.nth i).1.o (f.nth i).1.t v)[j]? = some u → xs[i * 3 + j]? = some u) ∧ w.ownsRow 0 30 3 v (f.nth i).2.len zs ∧ (∀ b, v.ownBlock = some b → P b) ∧ Kq w P (f.nth i).2 zs
  | .nil, _, _, i, h => by simp [Qf.len] at h
  | .cons o t k r, xs, ⟨v, ys, zs, e, ow, p, k1, k2⟩, 0, _ => ⟨v, zs, fun j u hj => by
      rw [e, Nat.zero_mul, Nat.zero_add]
      have hj' : j < 3 := by
        have := (Array.getElem?_eq_some_iff.1 hj).1
        simpa [qA] using this
      rw [List.getElem?_append_left (by simp [qA]; exact hj')]
      simpa [Qf.nth] using hj, ow, p, k1⟩
  | .cons o t k r, xs, ⟨v, ys, zs, e, ow, p, k1, k2⟩, i + 1, h => by
      obtain ⟨v', zs', h1, h2⟩ := Kq.nthQ k2 i (by simpa [Qf.len] using h)
      refine ⟨v', zs', fun j u hj => ?_, h2⟩
      rw [e, List.getElem?_append_right (by simp [qA]; omega)]
      have := h1 j u hj
      simp only [qA, List.length_cons, List.length_nil]
      rw [show (i + 1) * 3 + j - (0 + 1 + 1 + 1) = i * 3 + j by omega]
      exact this
theorem qlen_le_sz : ∀ f : Qf, f.len ≤ f.sz
  | .nil => Nat.le_refl _
  | .cons o t k r => by have := qlen_le_sz r; simp only [Qf.len, Qf.sz]; omega
/-- One that is handed out: how deep it stands, itself, its list's value. -/
structure EmQ (Pr : Nat → Qn → Nat → Prop) where
  d : Nat
  nd : Qn
  ad : Option Addr
  len : Nat
  cap : Nat
  h : Pr d nd len
def encW {Pr : Nat → Qn → Nat → Prop} (e : EmQ Pr) : Array Value := #[.int .i64 (e.d : Int), qV e.nd.o e.nd.t (.slice e.ad e.len e.cap)]
section
variable {F : Fence} {n : Nat} {w w' : World} {ops : Array Oper} {rest : List Oper} {a : Act} {Q : Exit → Act → World → Prop} {dst : Option Nat} {x y : Operand} {ty : TypeId} {pos : String} {after : Array Edge}
theorem wlI_box30 (hF : ∀ f, F.fn f) {m : Int} {s : Tx} {l : Value} (hx : a.eval x = qV m s l) (h : ∀ g w', w'.heap[g]? = some (.cells (qA m s l) 30 (0, 0)) → Below w.heap.size w w' → w.heap.size ≤ g → wpListIn F n Tryz.prog ops Q rest (a.put dst (.pointer (some ⟨g, 0, none⟩))) w') : wpListIn F n Tryz.prog ops Q (⟨dst, .box 30 x, ty, pos, after, none⟩ :: rest) a w :=
  wlI_val hF (fun c => nofun) (run_box30 _ _ _ _ _ _ m s l hx w) (h _ _ (heap_alloc_new w _) ((Below.refl _ w).alloc (Nat.le_refl _) _) (Nat.le_refl _))
end
theorem ld157 {w : World} {ad : Addr} {v : Value} (h : w.cell? ad = some v) : (loadVar 157 ad).run Tryz.prog w = .ok v w := by
  have ho : ∀ w, (sizeOf 157).run Tryz.prog w = .ok 1 w := fun w => by kernel_rfl
  have ha : ∀ w, (isAgg 157).run Tryz.prog w = .ok false w := fun w => by kernel_rfl
  simp [loadVar, ha, go_sem, h]
section
variable {dst : Option Nat} {ty : TypeId} {pos : String} {after : Array Edge} {a : Act}
theorem run_alloc157 (w : World) : (execOp a.eval ⟨dst, .alloc 157, ty, pos, after, none⟩).run Tryz.prog w = .ok (.value (.pointer (some ⟨w.heap.size, 0, none⟩))) (w.alloc (.cells #[.nilFunc] 157)) := by
  unfold execOp
  kernel_rfl
end
set_option maxHeartbeats 4000000 in
theorem withinQ_in (n : Nat) (k : Int) (s : Tx) (l : Value) (w : World) :
    CallsIn Fence.wide n Tryz.prog 45 #[qV k s l] w fun e w' => ∃ g, e = .returned (.func (.func 93) #[] #[.pointer (some ⟨g, 0, none⟩)]) ∧ w'.heap[g]? = some (.cells (qA k s l) 30 (0, 0)) ∧ Below w.heap.size w w' ∧ w.heap.size ≤ g := by
  have hmf : ∀ (fn : Fn) (first cap : Array Value) (w : World), (Instr.makeFunc fn first cap).run Tryz.prog w = .ok (.func fn first cap) w := fun _ _ _ _ => rfl
  refine callsIn_of_wp Tryz.func45 rfl trivial ?_ rfl
  simp only [Tryz.ntmps45, List.size_toArray, List.length_cons, List.length_nil, Nat.reduceAdd, Nat.reduceSub, Array.replicate_succ, Array.replicate_zero, List.push_toArray, List.append_toArray, List.nil_append, List.cons_append]
  gi_wp2_with (first | ((with_reducible refine atI_box 30 ?_); refine wlI_box30 wide_fn rfl ?_; intro g w1 hb B1 hge; replace hb := hide hb))
  go_ret
  exact ⟨g, rfl, hb.out, B1, hge⟩
theorem run_st157 {w : World} {g : Nat} {u : Value} {f : Fn} {xs ys : Array Value} (h : w.heap[g]? = some (.cells #[u] 157 (0, 0))) : (storeVar 157 ⟨g, 0, none⟩ (.func f xs ys)).run Tryz.prog w = .ok () (w.setCell ⟨g, 0, none⟩ (.func f xs ys)) := by
  have hc := cell_row h 0 (v := u) rfl
  have hf := frozen_of_row w g 0 _ 157 h
  have e : (storeCells ⟨g, 0, none⟩ [.func f xs ys]).run Tryz.prog w = .ok () (w.setCell ⟨g, 0, none⟩ (.func f xs ys)) := by simp [storeCells, go_sem, run_store Tryz.prog w _ (.func f xs ys) _ rfl, stored, hc, hf]
  have o157 : ∀ w, (sizeOf 157).run Tryz.prog w = .ok 1 w := fun w => by kernel_rfl
  have e4 : (Value.func f xs ys).cells = #[.func f xs ys] := rfl
  unfold storeVar
  simp only [Sem.run_bind, o157, Result.andThen_ok, e4]
  simpa using e
section
variable {F : Fence} {n : Nat} {w w' : World} {ops : Array Oper} {rest : List Oper} {a : Act} {Q : Exit → Act → World → Prop} {dst : Option Nat} {x y : Operand} {ty : TypeId} {pos : String} {after : Array Edge}
theorem wlI_box157 (hF : ∀ f, F.fn f) {f : Fn} {xs ys : Array Value} (hx : a.eval x = .func f xs ys) (h : ∀ g w', w'.heap[g]? = some (.cells #[.func f xs ys] 157 (0, 0)) → Below w.heap.size w w' → w.heap.size ≤ g → wpListIn F n Tryz.prog ops Q rest (a.put dst (.pointer (some ⟨g, 0, none⟩))) w') : wpListIn F n Tryz.prog ops Q (⟨dst, .box 157 x, ty, pos, after, none⟩ :: rest) a w := by
  have e : (execOp a.eval ⟨dst, .box 157 x, ty, pos, after, none⟩).run Tryz.prog w = .ok (.value (.pointer (some ⟨w.heap.size, 0, none⟩))) (w.alloc (.cells #[.func f xs ys] 157)) := by
    unfold execOp
    simp only [hx]
    kernel_rfl
  exact wlI_val hF (fun c => nofun) e (h _ _ (heap_alloc_new w _) ((Below.refl _ w).alloc (Nat.le_refl _) _) (Nat.le_refl _))
theorem atI_allocQ (t : TypeId) (h : wpListIn F n Tryz.prog ops Q (⟨dst, .alloc t, ty, pos, after, none⟩ :: rest) a w) : wpListIn F n Tryz.prog ops Q (⟨dst, .alloc t, ty, pos, after, none⟩ :: rest) a w := h
theorem atI_storeQ (t : TypeId) (h : wpListIn F n Tryz.prog ops Q (⟨none, .store t x y, ty, pos, after, none⟩ :: rest) a w) : wpListIn F n Tryz.prog ops Q (⟨none, .store t x y, ty, pos, after, none⟩ :: rest) a w := h
theorem wlI_alloc157 (hF : ∀ f, F.fn f) (h : ∀ g w', w'.heap[g]? = some (.cells #[.nilFunc] 157 (0, 0)) → Below w.heap.size w w' → w.heap.size ≤ g → wpListIn F n Tryz.prog ops Q rest (a.put dst (.pointer (some ⟨g, 0, none⟩))) w') : wpListIn F n Tryz.prog ops Q (⟨dst, .alloc 157, ty, pos, after, none⟩ :: rest) a w :=
  wlI_val hF (fun c => nofun) (run_alloc157 w) (h _ _ (heap_alloc_new w _) ((Below.refl _ w).alloc (Nat.le_refl _) _) (Nat.le_refl _))
theorem wlI_st157 (hF : ∀ f, F.fn f) {g : Nat} {u : Value} {f : Fn} {xs ys : Array Value} (hg : w.heap[g]? = some (.cells #[u] 157 (0, 0))) (hx : a.eval x = .pointer (some ⟨g, 0, none⟩)) (hy : a.eval y = .func f xs ys) (h : ∀ w', w'.heap[g]? = some (.cells #[.func f xs ys] 157 (0, 0)) → But (fun k => k = g) w w' → wpListIn F n Tryz.prog ops Q rest a w') : wpListIn F n Tryz.prog ops Q (⟨none, .store 157 x y, ty, pos, after, none⟩ :: rest) a w := by
  refine wlI_skip (w' := w.setCell ⟨g, 0, none⟩ (.func f xs ys)) hF (fun c => nofun) ?_ (h _ ?_ ?_)
  · unfold execOp
    simp only [hx, hy, Instr.storeAt, Instr.sureAddr, Sem.run_bind, Sem.run_pure, Result.andThen_ok, run_st157 hg]
  · exact heap_setCell_same w g 0 _ 157 _ hg
  · exact ⟨rfl, rfl, rfl, by simp [World.setCell], fun k hk hn => Below.heap_setCell w ⟨g, 0, none⟩ _ k hn⟩
end
end Go.Proofs.YtnffbmipllhjdaaGreatDoor.G

namespace Go.Proofs.YtnffbmipllhjdaaGreatDoor.G
open Go.RowKit Go.Shelf
set_option linter.unusedVariables false
set_option linter.unusedSimpArgs false
attribute [local go_sem] Oper.semAt_some

/-- What is handed out of a list, in its order: how deep, which one, how many members. -/
def Qf.ems : Nat → Qf → List (Nat × Qn × Nat)
  | _, .nil => []
  | d, .cons o t k r => (d, ⟨o, t⟩, k.len) :: (k.ems (d + 1) ++ r.ems d)
def emsQ (d : Nat) (t : Qn × Qf) : List (Nat × Qn × Nat) := (d, t.1, t.2.len) :: t.2.ems (d + 1)
def Qf.emsTo (f : Qf) (d : Nat) : Nat → List (Nat × Qn × Nat)
  | 0 => []
  | i + 1 => f.emsTo d i ++ emsQ d (f.nth i)
theorem qemsTo_cons (o : Int) (t : Tx) (k r : Qf) (d : Nat) : ∀ i, (Qf.cons o t k r).emsTo d (i + 1) = emsQ d (⟨o, t⟩, k) ++ r.emsTo d i
  | 0 => by simp [Qf.emsTo, Qf.nth]
  | i + 1 => by rw [Qf.emsTo, qemsTo_cons o t k r d i, Qf.emsTo, List.append_assoc]; rfl
theorem qemsTo_len : ∀ (f : Qf) (d : Nat), f.emsTo d f.len = f.ems d
  | .nil, _ => rfl
  | .cons o t k r, d => by rw [Qf.len, qemsTo_cons, qemsTo_len r, Qf.ems]; simp [emsQ]
theorem qems_len : ∀ (f : Qf) (d : Nat), (f.ems d).length = f.sz
  | .nil, _ => rfl
  | .cons o t k r, d => by simp [Qf.ems, Qf.sz, qems_len k, qems_len r]; omega
theorem emsQ_len (t : Qn × Qf) (d : Nat) : (emsQ d t).length = szQ t := by simp [emsQ, szQ, qems_len]; omega
theorem qems_all {Q : Nat → Qn → Nat → Prop} : ∀ (f : Qf) (d : Nat), (∀ x ∈ f.ems d, Q x.1 x.2.1 x.2.2) → AllQ Q d f
  | .nil, _, _ => trivial
  | .cons o t k r, d, h => ⟨h (d, ⟨o, t⟩, k.len) (by simp [Qf.ems]), qems_all k (d + 1) (fun x hx => h x (by simp [Qf.ems, hx])), qems_all r d (fun x hx => h x (by simp [Qf.ems, hx]))⟩
def keyQ {Pr : Nat → Qn → Nat → Prop} (x : EmQ Pr) : Nat × Qn × Nat := (x.d, x.nd, x.len)
/-- How giving all of a pattern ends. -/
def Give2Q {Pr : Nat → Qn → Nat → Prop} (S : Nat → Prop) (J Jx : List (EmQ Pr) → World → Prop) (pre : List (EmQ Pr)) (kl : List (Nat × Qn × Nat)) (W : World) (e : Ending) (W' : World) : Prop :=
  (e = .returned (.bool true) ∧ (∃ xs, xs.map keyQ = kl ∧ J (pre ++ xs) W') ∧ Kc S W W') ∨ (e = .returned (.bool false) ∧ ∃ p, Jx p W')
set_option maxHeartbeats 8000000 in
set_option maxRecDepth 100000 in
theorem give2Q_in {Pr : Nat → Qn → Nat → Prop} (S : Nat → Prop) (l Y G B0 : Nat) (J Jx : List (EmQ Pr) → World → Prop) (B : Nat) (hAJ : AbidesFrom B J) (NN : Nat)
    (hYY : ∀ m pre x W1, J pre W1 → pre.length < NN → YieldAt Fence.wide m Tryz.prog l (encW x) W1 fun e W' => (e = .returned (.bool true) ∧ J (pre ++ [x]) W' ∧ Kc S W1 W') ∨ (e = .returned (.bool false) ∧ Jx (pre ++ [x]) W'))
    (hYS : ¬ S Y) (hGS : ¬ S G) (hS : ∀ k, B0 ≤ k → ¬ S k) :
    ∀ N nd kids, szQ (nd, kids) ≤ N → ∀ (n d : Nat) (W : World) (pre : List (EmQ Pr)) (v : Value) (zs : List Value), Hid (Pr d nd kids.len) → AllQ Pr (d + 1) kids → W.ownsRow 0 30 3 v kids.len zs → (∀ b, v.ownBlock = some b → ¬ S b) → Kq W (fun b => ¬ S b) kids zs →
      W.heap[Y]? = some (.cells #[.func (.yield l) #[] #[]] 157 (0, 0)) → W.heap[G]? = some (.cells #[.func (.func 94) #[] #[.pointer (some ⟨Y, 0, none⟩), .pointer (some ⟨G, 0, none⟩)]] 157 (0, 0)) → Hid (J pre W) → pre.length + szQ (nd, kids) ≤ NN → d + szQ (nd, kids) ≤ 10000 → B0 ≤ W.heap.size →
      CallsIn Fence.wide n Tryz.prog 94 #[.int .i64 (d : Int), qV nd.o nd.t v, .pointer (some ⟨Y, 0, none⟩), .pointer (some ⟨G, 0, none⟩)] W (Give2Q S J Jx pre (emsQ d (nd, kids)) W) := by
  intro N
  induction N with
  | zero => intro nd kids h; simp [szQ] at h
  | succ N ih =>
    intro nd kids hN n d W pre v zs hPr hA ho hp hk hYb hGb hJ hNN hd hB0
    obtain ⟨ad, cap, rfl, hc1, hc2⟩ := owns3_val ho
    have hpos : 1 ≤ szQ (nd, kids) := by simp [szQ]
    have hlen : kids.len ≤ 10000 := by have := qlen_le_sz kids; simp only [szQ] at hd; omega
    have hAJ' := hide hAJ
    replace hA := hide hA
    replace hp := hide hp
    replace hk := hide hk
    replace hS := hide hS
    replace ih := hide ih
    replace ho := hide ho
    replace hYYh := hide hYY
    refine callsIn_of_wp Tryz.func94 rfl trivial ?_ rfl
    simp only [Tryz.ntmps94, List.size_toArray, List.length_cons, List.length_nil, Nat.reduceAdd, Nat.reduceSub, Array.replicate_succ, Array.replicate_zero, List.push_toArray, List.append_toArray, List.nil_append, List.cons_append]
    gi_wp2_with (first | ((with_reducible refine atI_box 30 ?_); go_loud (refine wlI_box30 wide_fn rfl ?_; intro g5 w1 hb5 B1 hge; have hJ1 := abides_below hAJ hJ.out B1; have hc1 := Kc.below (S := S) B1 (Nat.le_refl _); have hY1 := hc1.2 Y _ _ _ hYS hYb; have cY := cell_row hY1 0 (v := .func (.yield l) #[] #[]) rfl; obtain ⟨fn, tmps, assign, body, hy, hR⟩ := hYY (n - 1) pre ⟨d, nd, ad, kids.len, cap, hPr.out⟩ w1 hJ1 (by omega); simp only [encW] at hy; replace hb5 := hide hb5; replace B1 := hide B1; replace hJ1 := hide hJ1; replace hc1 := hide hc1; replace hY1 := hide hY1)) | ((with_reducible refine atI_load 157 ?_); refine wlI_load 157 wide_fn rfl (ld157 cY) ?_) | ((with_reducible refine atI_load 30 ?_); refine wlI_load 30 wide_fn rfl (load30 hb5.out) ?_))
    refine ⟨fun h => (by cases h), hR.mono ?_⟩
    rintro e W3 (⟨rfl, hJ3, hk3⟩ | ⟨rfl, hJx3⟩)
    · have hcc : Hid (Kc S W W3) := hc1.out.trans hk3
      have hb3 : Hid (W3.heap[g5]? = some (.cells (qA nd.o nd.t (.slice ad kids.len cap)) 30 (0, 0))) := hk3.2 g5 _ _ _ (hS.out g5 (by omega)) hb5.out
      have cL := cell_row hb3.out 2 (v := .slice ad kids.len cap) rfl
      have hG3 := hide (hcc.out.2 G _ _ _ hGS hGb)
      have hs3 := hcc.out.1
      have ho3 := hide (owns3_kc ho.out hcc.out hp.out)
      have hkd3 := hide (Kq.kc hcc.out hk.out)
      replace hk3 := hide hk3
      replace hJ3 := hide hJ3
      clear hy hR cY
      gi_wp2_with (first | ((with_reducible refine atI_load 28 ?_); refine wlI_load 28 wide_fn rfl (ld28 cL) ?_))
      gi_loopw [17] (fun i wr => ∃ k xs, i = .int .i64 ((k : Nat) : Int) ∧ k ≤ kids.len ∧ Hid (xs.map keyQ = (d, nd, kids.len) :: kids.emsTo (d + 1) k ∧ xs.length = 1 + kids.szTo k) ∧ Hid (J (pre ++ xs) wr) ∧ Hid (Kc S W3 wr)) (fun i _ => kids.len - (intOf i).toNat)
      case atStart => exact ⟨0, [⟨d, nd, ad, kids.len, cap, hPr.out⟩], rfl, Nat.zero_le _, ⟨rfl, rfl⟩, hJ3, Kc.refl _ _⟩
      case round =>
        obtain ⟨k, xs, rfl, hkl, hxs, hJr, hkr⟩ := hrel
        by_cases hlt : k < kids.len
        · have i1 : (k : Int) < (kids.len : Int) := by omega
          have hltH := hide hlt
          have hor := owns3_kc ho3.out hkr.out hp.out
          have hkdr := Kq.kc hkr.out hkd3.out
          obtain ⟨cv, czs, hcells, cho, chp, chk⟩ := Kq.nthQ hkdr k hlt
          obtain ⟨cPr, cA⟩ := AllQ.nth hA.out k hlt
          have hsz1 := qszTo_le kids (k + 1) (by omega)
          have hsz2 : kids.szTo (k + 1) = kids.szTo k + szQ (kids.nth k) := rfl
          have hem2 : kids.emsTo (d + 1) (k + 1) = kids.emsTo (d + 1) k ++ emsQ (d + 1) (kids.nth k) := rfl
          generalize kids.nth k = ch at hcells cho chp chk cPr cA hsz2 hem2
          obtain ⟨cnd, ckids⟩ := ch
          simp only at hcells cho chp chk cPr cA
          have hb : ∃ b, ad = some ⟨b, 0, none⟩ ∧ ∀ j u, (qA cnd.o cnd.t cv)[j]? = some u → wr.cell? ⟨b, k * 3 + j, none⟩ = some u := by
            rcases hor.2 with ⟨h1, h2⟩ | ⟨g, cap', cur, hv, _⟩
            · omega
            · cases hv
              refine ⟨g, rfl, fun j u hj => ?_⟩
              have := hor.cells (g := g) rfl _ _ (hcells j u hj)
              rwa [add_plain, Nat.zero_add] at this
          obtain ⟨b, rfl, hcell⟩ := hb
          obtain ⟨ca, cc, hcv, _, _⟩ := owns3_val cho
          subst hcv
          have hl28 := hide (load30c hcell)
          have hsz3 : szQ (nd, kids) = 1 + kids.sz := rfl
          have hGr := hkr.out.2 G _ _ _ hGS hG3.out
          have hYr := hkr.out.2 Y _ _ _ hYS (hk3.out.2 Y _ _ _ hYS hY1.out)
          have hsr := hkr.out.1
          have hxl := hxs.out.2
          replace hem2 := hide hem2
          replace hcells := hide hcells
          replace hcell := hide hcell
          replace cho := hide cho
          replace chp := hide chp
          replace chk := hide chk
          replace cPr := hide cPr
          replace cA := hide cA
          replace hor := hide hor
          replace hkdr := hide hkdr
          replace hGr := hide hGr
          replace hYr := hide hYr
          gi_wp2_with (first | ((with_reducible refine atI_load 30 ?_); refine wlI_load 30 wide_fn rfl (hl28.out) ?_) | ((with_reducible refine atI_new30 ?_); refine wlI_new30 wide_fn rfl (fun _ => rfl) (fun _ => rfl) ?_; intro g8 w8 hb8 B8 hg8; have hk8 := hide (Kc.below (S := S) B8 (Nat.le_refl _)); have cG := cell_row (hk8.out.2 G _ _ _ hGS hGr.out) 0 (v := .func (.func 94) #[] #[.pointer (some ⟨Y, 0, none⟩), .pointer (some ⟨G, 0, none⟩)]) rfl; have hl8 := hide (load30 hb8); replace hb8 := hide hb8; replace B8 := hide B8) | ((with_reducible refine atI_load 157 ?_); refine wlI_load 157 wide_fn rfl (ld157 cG) ?_) | ((with_reducible refine atI_load 30 ?_); refine wlI_load 30 wide_fn rfl (hl8.out) ?_))
          have hs8 := B8.out.size
          refine ⟨trivial, fun h => (by cases h), (ih.out cnd ckids (by omega) _ (d + 1) w8 (pre ++ xs) _ czs cPr.out cA.out (owns3_kc cho.out hk8.out chp.out) chp.out (Kq.kc hk8.out chk.out) (hk8.out.2 Y _ _ _ hYS hYr.out) (hk8.out.2 G _ _ _ hGS hGr.out) (abides_below hAJ hJr.out B8.out) (by rw [List.length_append]; omega) (by omega) (by omega)).mono ?_⟩
          rintro e W9 (⟨rfl, ⟨ys, hys, hJ9⟩, hk9⟩ | ⟨rfl, p, hJx9⟩)
          · have hJ10 : Hid (J (pre ++ (xs ++ ys)) W9) := by
              have := hJ9
              rw [List.append_assoc] at this
              exact this
            have hk10 : Hid (Kc S W3 W9) := hkr.out.trans (hk8.out.trans hk9)
            have hl10 : Hid ((xs ++ ys).map keyQ = (d, nd, kids.len) :: kids.emsTo (d + 1) (k + 1) ∧ (xs ++ ys).length = 1 + kids.szTo (k + 1)) := by
              refine ⟨?_, ?_⟩
              · rw [List.map_append, hxs.out.1, hys, hem2.out]; rfl
              · have hyl : ys.length = szQ (cnd, ckids) := by rw [← emsQ_len (cnd, ckids) (d + 1), ← hys, List.length_map]
                rw [List.length_append, hxl, hyl, hsz2]; omega
            clear hJ9 hk9 hys
            gi_wp2
            go_roundw
            case rel => exact ⟨k + 1, xs ++ ys, by go_num, hltH.out, hl10, hJ10, hk10⟩
            case measure => have := hltH.out; simp [intOf]; omega
          · gi_wp2
            go_ret
            exact .inr ⟨rfl, _, hJx9⟩
        · obtain rfl : k = kids.len := by omega
          gi_wp2
          go_ret
          exact .inl ⟨rfl, ⟨xs, by rw [hxs.out.1, qemsTo_len]; rfl, hJr.out⟩, hcc.out.trans hkr.out⟩
    · gi_wp2
      go_ret
      exact .inr ⟨rfl, _, hJx3⟩
set_option maxHeartbeats 4000000 in
set_option maxRecDepth 100000 in
theorem within2Q_stops {Pr : Nat → Qn → Nat → Prop} (S : Nat → Prop) (n : Nat) (B : Nat) (t : Qn × Qf) (v : Value) (zs : List Value) (w : World) (hB : w.heap[B]? = some (.cells (qA t.1.o t.1.t v) 30 (0, 0))) (ho : w.ownsRow 0 30 3 v t.2.len zs) (hp : ∀ b, v.ownBlock = some b → ¬ S b) (hk : Kq w (fun b => ¬ S b) t.2 zs) (hPr : Pr 1 t.1 t.2.len) (hA : AllQ Pr 2 t.2) (hsz : szQ t ≤ 9000) (hBS : ¬ S B) (hS : ∀ k, w.heap.size ≤ k → ¬ S k) :
    SeqStopsK Fence.wide n Tryz.prog 93 #[.pointer (some ⟨B, 0, none⟩)] (encW (Pr := Pr)) (Kc S) (fun xs => xs.map keyQ = emsQ 1 t) (fun _ => True) (szQ t) w := fun l J Jx W hW hAJ hAJx hYY h0 => by
  obtain ⟨nd, kids⟩ := t
  simp only at *
  have hmf : ∀ (fn : Fn) (first cap : Array Value) (w : World), (Instr.makeFunc fn first cap).run Tryz.prog w = .ok (.func fn first cap) w := fun _ _ _ _ => rfl
  have hBl : B < w.heap.size := (Array.getElem?_eq_some_iff.1 hB).1
  have hsw := hW.size
  have kW : Hid (Kc S w W) := Kc.below hW (Nat.le_refl _)
  obtain ⟨va, vc, hv, _, _⟩ := owns3_val ho
  subst hv
  replace hYY : Hid _ := hide hYY
  replace ho := hide ho
  replace hp := hide hp
  replace hk := hide hk
  replace hPr := hide hPr
  replace hA := hide hA
  replace hS := hide hS
  replace hW := hide hW
  replace hAJh := hide hAJ
  replace h0 := hide h0
  show CallsIn Fence.wide n Tryz.prog 93 #[.func (.yield l) #[] #[], .pointer (some ⟨B, 0, none⟩)] W _
  refine callsIn_of_wp Tryz.func93 rfl trivial ?_ rfl
  simp only [Tryz.ntmps93, List.size_toArray, List.length_cons, List.length_nil, Nat.reduceAdd, Nat.reduceSub, Array.replicate_succ, Array.replicate_zero, List.push_toArray, List.append_toArray, List.nil_append, List.cons_append]
  gi_wp2_with (first | ((with_reducible refine atI_box 157 ?_); refine wlI_box157 wide_fn rfl ?_; intro Y w1 hbY B1 hgY; replace hbY := hide hbY; replace B1 := hide B1) | ((with_reducible refine atI_allocQ 157 ?_); refine wlI_alloc157 wide_fn ?_; intro G w2 hbG B2 hgG; replace hbG := hide hbG; replace B2 := hide B2) | ((with_reducible refine atI_storeQ 157 ?_); refine wlI_st157 wide_fn hbG.out rfl rfl ?_; intro w3 hbG3 B3; have hs1 := B1.out.size; have hs2 := B2.out.size; have hl1 := (Array.getElem?_eq_some_iff.1 hbY.out).1; have hY2 : Hid (w2.heap[Y]? = some (.cells #[.func (.yield l) #[] #[]] 157 (0, 0))) := (B2.out.block Y hl1).trans hbY.out; have hY3 : Hid (w3.heap[Y]? = some (.cells #[.func (.yield l) #[] #[]] 157 (0, 0))) := (B3.block Y (by omega) (by omega)).trans hY2.out; have BW : Hid (Below W.heap.size W w3) := (B1.out.trans (B2.out.mono hs1)).trans (B3.below (by omega) (fun k e => by omega)); have k3 : Hid (Kc S w w3) := kW.out.trans (Kc.below BW.out (Nat.le_refl _)); have hB3 := k3.out.2 B _ _ _ hBS hB; have cG := cell_row hbG3 0 (v := .func (.func 94) #[] #[.pointer (some ⟨Y, 0, none⟩), .pointer (some ⟨G, 0, none⟩)]) rfl; replace hbG3 := hide hbG3; have hl28 := hide (load30 hB3); replace hB3 := hide hB3; replace B3 := hide B3) | ((with_reducible refine atI_load 157 ?_); refine wlI_load 157 wide_fn rfl (ld157 cG) ?_) | ((with_reducible refine atI_load 30 ?_); refine wlI_load 30 wide_fn rfl (hl28.out) ?_))
  have hs3 := BW.out.size
  refine ⟨trivial, fun h => (by cases h), (give2Q_in S l Y G w.heap.size J Jx W.heap.size hAJ (szQ (nd, kids)) (fun m pre x W1 hj hl => yield_wide (hYY.out pre x W1 hj hl)) (hS.out Y (by omega)) (hS.out G (by omega)) hS.out (szQ (nd, kids)) nd kids (Nat.le_refl _) _ 1 w3 [] _ zs hPr.out hA.out (owns3_kc ho.out k3.out hp.out) hp.out (Kq.kc k3.out hk.out) hY3.out hbG3.out (abides_below hAJ h0.out BW.out) (by simp) (by omega) (by omega)).mono ?_⟩
  rintro e W9 (⟨rfl, ⟨ys, hys, hJ9⟩, hk9⟩ | ⟨rfl, p, hJx9⟩)
  · replace hJ9 := hide hJ9
    clear hk9
    gi_wp2
    go_end0
    exact ⟨⟨_, rfl⟩, .inl ⟨ys, hys, by simpa using hJ9.out⟩⟩
  · replace hJx9 := hide hJx9
    gi_wp2
    go_end0
    exact ⟨⟨_, rfl⟩, .inr ⟨p, trivial, hJx9.out⟩⟩
end Go.Proofs.YtnffbmipllhjdaaGreatDoor.G

namespace Go.Proofs.YtnffbmipllhjdaaGreatDoor.G
open Go.RowKit Go.Shelf
set_option linter.unusedVariables false
set_option linter.unusedSimpArgs false
attribute [local go_sem] Oper.semAt_some

def fitQ (o : Int) (t : Tx) (m : Nat) : Prop := ((o = 0 ∨ o = 1) ∧ t = [] ∧ m = 0) ∨ (o = 2 ∧ t.length = 3 ∧ m = 0) ∨ ((o = 3 ∨ o = 4) ∧ t = [])
theorem str_ne {t : Tx} (h : t ≠ []) : ¬ (⟨t.toArray⟩ : ByteArray).toList = [] := fun e => by
  rw [ByteArray.toList_eq] at e
  exact h (by simpa using e)
set_option maxHeartbeats 2000000 in
set_option maxRecDepth 100000 in
theorem isFit_no (o : Int) (t : Tx) (va : Option Addr) (m c : Nat) (h : ¬ fitQ o t m) (w : World) :
    Calls Tryz.prog 46 #[qV o t (.slice va m c)] w fun e w' => e = .returned (.bool false) ∧ Below w.heap.size w w' := by
  have H := St.start Nope w
  unfold fitQ at h
  obtain ⟨S, hS⟩ : ∃ S : ByteArray, S = ⟨t.toArray⟩ := ⟨_, rfl⟩
  have hSz : S.size = t.length := by rw [hS]; simp [ByteArray.size]
  by_cases h0 : o = 0 ∨ o = 1
  · by_cases ht : t = []
    · subst ht
      have hm : ¬ (m : Int) = 0 := fun e => h (.inl ⟨h0, rfl, by omega⟩)
      have hm2 : ¬ m = 0 := by omega
      rcases h0 with rfl | rfl
      · go_enter Tryz.func46, Tryz.ntmps46
        go_wp2_with ((with_reducible refine at_box 30 ?_); refine wl_box30 H rfl ?_; clear H; intro g1 w1 H q1 q2; have c0 := H.cell 0 0 rfl (v := .int .i64 0) rfl; have c1 := H.cell 0 1 rfl (v := .string ⟨#[]⟩) rfl; have c2 := H.cell 0 2 rfl (v := .slice va m c) rfl; have hb := hide H.below; clear H)
        go_ret
        first | exact ⟨rfl, hb.out⟩ | exact ⟨by simp; omega, hb.out⟩ | exact ⟨by simp [hne], hb.out⟩
      · go_enter Tryz.func46, Tryz.ntmps46
        go_wp2_with ((with_reducible refine at_box 30 ?_); refine wl_box30 H rfl ?_; clear H; intro g1 w1 H q1 q2; have c0 := H.cell 0 0 rfl (v := .int .i64 1) rfl; have c1 := H.cell 0 1 rfl (v := .string ⟨#[]⟩) rfl; have c2 := H.cell 0 2 rfl (v := .slice va m c) rfl; have hb := hide H.below; clear H)
        go_ret
        first | exact ⟨rfl, hb.out⟩ | exact ⟨by simp; omega, hb.out⟩ | exact ⟨by simp [hne], hb.out⟩
    · have hne : ¬ S.toList = [] := by rw [hS]; exact str_ne ht
      rcases h0 with rfl | rfl
      · go_enter Tryz.func46, Tryz.ntmps46
        go_wp2_with ((with_reducible refine at_box 30 ?_); refine wl_box30 H rfl ?_; clear H; intro g1 w1 H q1 q2; have c0 := H.cell 0 0 rfl (v := .int .i64 0) rfl; have c1 := H.cell 0 1 rfl (v := .string ⟨t.toArray⟩) rfl; have c2 := H.cell 0 2 rfl (v := .slice va m c) rfl; rw [← hS] at c1; replace hS := hide hS; have hb := hide H.below; clear H)
        go_ret
        first | exact ⟨rfl, hb.out⟩ | exact ⟨by simp; omega, hb.out⟩ | exact ⟨by simp [hne], hb.out⟩
      · go_enter Tryz.func46, Tryz.ntmps46
        go_wp2_with ((with_reducible refine at_box 30 ?_); refine wl_box30 H rfl ?_; clear H; intro g1 w1 H q1 q2; have c0 := H.cell 0 0 rfl (v := .int .i64 1) rfl; have c1 := H.cell 0 1 rfl (v := .string ⟨t.toArray⟩) rfl; have c2 := H.cell 0 2 rfl (v := .slice va m c) rfl; rw [← hS] at c1; replace hS := hide hS; have hb := hide H.below; clear H)
        go_ret
        first | exact ⟨rfl, hb.out⟩ | exact ⟨by simp; omega, hb.out⟩ | exact ⟨by simp [hne], hb.out⟩
  · have n0 : ¬ o = 0 := fun e => h0 (.inl e)
    have n1 : ¬ o = 1 := fun e => h0 (.inr e)
    by_cases h2 : o = 2
    · subst h2
      by_cases h3 : t.length = 3
      · have hm : ¬ (m : Int) = 0 := fun e => h (.inr (.inl ⟨rfl, h3, by omega⟩))
        have hm2 : ¬ m = 0 := by omega
        rw [h3] at hSz
        go_enter Tryz.func46, Tryz.ntmps46
        go_wp2_with ((with_reducible refine at_box 30 ?_); refine wl_box30 H rfl ?_; clear H; intro g1 w1 H q1 q2; have c0 := H.cell 0 0 rfl (v := .int .i64 2) rfl; have c1 := H.cell 0 1 rfl (v := .string ⟨t.toArray⟩) rfl; have c2 := H.cell 0 2 rfl (v := .slice va m c) rfl; rw [← hS] at c1; replace hS := hide hS; have hb := hide H.below; clear H)
        go_ret
        first | exact ⟨rfl, hb.out⟩ | exact ⟨by simp; omega, hb.out⟩ | exact ⟨by simp [hne], hb.out⟩
      · have hz : ¬ (S.size : Int) = 3 := by omega
        have hz2 : ¬ S.size = 3 := by omega
        replace hSz := hide hSz
        go_enter Tryz.func46, Tryz.ntmps46
        go_wp2_with ((with_reducible refine at_box 30 ?_); refine wl_box30 H rfl ?_; clear H; intro g1 w1 H q1 q2; have c0 := H.cell 0 0 rfl (v := .int .i64 2) rfl; have c1 := H.cell 0 1 rfl (v := .string ⟨t.toArray⟩) rfl; have c2 := H.cell 0 2 rfl (v := .slice va m c) rfl; rw [← hS] at c1; replace hS := hide hS; have hb := hide H.below; clear H)
        go_ret
        first | exact ⟨rfl, hb.out⟩ | exact ⟨by simp; omega, hb.out⟩ | exact ⟨by simp [hne], hb.out⟩
    · by_cases h3 : o = 3 ∨ o = 4
      · have ht : t ≠ [] := fun e => h (.inr (.inr ⟨h3, e⟩))
        have hne : ¬ S.toList = [] := by rw [hS]; exact str_ne ht
        rcases h3 with rfl | rfl
        · go_enter Tryz.func46, Tryz.ntmps46
          go_wp2_with ((with_reducible refine at_box 30 ?_); refine wl_box30 H rfl ?_; clear H; intro g1 w1 H q1 q2; have c0 := H.cell 0 0 rfl (v := .int .i64 3) rfl; have c1 := H.cell 0 1 rfl (v := .string ⟨t.toArray⟩) rfl; rw [← hS] at c1; replace hS := hide hS; have hb := hide H.below; clear H)
          go_ret
          first | exact ⟨rfl, hb.out⟩ | exact ⟨by simp; omega, hb.out⟩ | exact ⟨by simp [hne], hb.out⟩
        · go_enter Tryz.func46, Tryz.ntmps46
          go_wp2_with ((with_reducible refine at_box 30 ?_); refine wl_box30 H rfl ?_; clear H; intro g1 w1 H q1 q2; have c0 := H.cell 0 0 rfl (v := .int .i64 4) rfl; have c1 := H.cell 0 1 rfl (v := .string ⟨t.toArray⟩) rfl; rw [← hS] at c1; replace hS := hide hS; have hb := hide H.below; clear H)
          go_ret
          first | exact ⟨rfl, hb.out⟩ | exact ⟨by simp; omega, hb.out⟩ | exact ⟨by simp [hne], hb.out⟩
      · have n3 : ¬ o = 3 := fun e => h3 (.inl e)
        have n4 : ¬ o = 4 := fun e => h3 (.inr e)
        go_enter Tryz.func46, Tryz.ntmps46
        go_wp2_with ((with_reducible refine at_box 30 ?_); refine wl_box30 H rfl ?_; clear H; intro g1 w1 H q1 q2; have c0 := H.cell 0 0 rfl (v := .int .i64 o) rfl; have hb := hide H.below; clear H)
        go_ret
        first | exact ⟨rfl, hb.out⟩ | exact ⟨by simp; omega, hb.out⟩ | exact ⟨by simp [hne], hb.out⟩
end Go.Proofs.YtnffbmipllhjdaaGreatDoor.G

namespace Go.Proofs.YtnffbmipllhjdaaGreatDoor.G
open Go.RowKit Go.Shelf
set_option linter.unusedVariables false
set_option linter.unusedSimpArgs false
attribute [local go_sem] Oper.semAt_some

theorem one34 : ∀ w, (sizeOf 34).run Tryz.prog w = .ok 1 w := fun w => by kernel_rfl
theorem ld34 {w : World} {ad : Addr} {v : Value} (h : w.cell? ad = some v) : (loadVar 34 ad).run Tryz.prog w = .ok v w := by
  have ha : ∀ w, (isAgg 34).run Tryz.prog w = .ok false w := fun w => by kernel_rfl
  simp [loadVar, ha, go_sem, h]
section
variable {F : Fence} {n : Nat} {w w' : World} {ops : Array Oper} {rest : List Oper} {a : Act} {Q : Exit → Act → World → Prop} {dst : Option Nat} {x y : Operand} {ty : TypeId} {pos : String} {after : Array Edge}
variable {S : Nat → Prop} {w0 : World} {L : List Ent}
theorem run_alloc34 (w : World) : (execOp a.eval ⟨dst, .alloc 34, ty, pos, after, none⟩).run Tryz.prog w = .ok (.value (.pointer (some ⟨w.heap.size, 0, none⟩))) (w.alloc (.cells #[.int .i64 0] 34)) := by
  unfold execOp
  kernel_rfl
theorem run_st34 {w : World} {g : Nat} {u : Value} {v : Int} (h : w.heap[g]? = some (.cells #[u] 34 (0, 0))) : (storeVar 34 ⟨g, 0, none⟩ (.int .i64 v)).run Tryz.prog w = .ok () (w.setCell ⟨g, 0, none⟩ (.int .i64 v)) := by
  have hc := cell_row h 0 (v := u) rfl
  have hf := frozen_of_row w g 0 _ 34 h
  have e : (storeCells ⟨g, 0, none⟩ [.int .i64 v]).run Tryz.prog w = .ok () (w.setCell ⟨g, 0, none⟩ (.int .i64 v)) := by simp [storeCells, go_sem, stored, hc, hf]
  have e4 : (Value.int .i64 v).cells = #[.int .i64 v] := rfl
  unfold storeVar
  simp only [Sem.run_bind, one34, Result.andThen_ok, e4]
  simpa using e
theorem wlI_st34 (hF : ∀ f, F.fn f) {g : Nat} {u : Value} {v : Int} (hg : w.heap[g]? = some (.cells #[u] 34 (0, 0))) (hx : a.eval x = .pointer (some ⟨g, 0, none⟩)) (hy : a.eval y = .int .i64 v) (h : ∀ w', w'.heap[g]? = some (.cells #[.int .i64 v] 34 (0, 0)) → But (fun k => k = g) w w' → wpListIn F n Tryz.prog ops Q rest a w') : wpListIn F n Tryz.prog ops Q (⟨none, .store 34 x y, ty, pos, after, none⟩ :: rest) a w := by
  refine wlI_skip (w' := w.setCell ⟨g, 0, none⟩ (.int .i64 v)) hF (fun c => nofun) ?_ (h _ ?_ ?_)
  · unfold execOp
    simp only [hx, hy, Instr.storeAt, Instr.sureAddr, Sem.run_bind, Sem.run_pure, Result.andThen_ok, run_st34 hg]
  · exact heap_setCell_same w g 0 _ 34 _ hg
  · exact ⟨rfl, rfl, rfl, by simp [World.setCell], fun k hk hn => Below.heap_setCell w ⟨g, 0, none⟩ _ k hn⟩
theorem wlS_box30 (hF : ∀ f, F.fn f) (H : St S w0 w L) {m : Int} {s : Tx} {l : Value} (hx : a.eval x = qV m s l) (h : ∀ g w', St S w0 w' ((true, g, 30, qA m s l) :: L) → w0.heap.size ≤ g → wpListIn F n Tryz.prog ops Q rest (a.put dst (.pointer (some ⟨g, 0, none⟩))) w') : wpListIn F n Tryz.prog ops Q (⟨dst, .box 30 x, ty, pos, after, none⟩ :: rest) a w :=
  wlI_val hF (fun c => nofun) (run_box30 _ _ _ _ _ _ m s l hx w) (h _ _ (H.alloc 30 _) H.but.size)
theorem wlS_alloc34 (hF : ∀ f, F.fn f) (H : St S w0 w L) (h : ∀ g w', St S w0 w' ((true, g, 34, #[.int .i64 0]) :: L) → w0.heap.size ≤ g → wpListIn F n Tryz.prog ops Q rest (a.put dst (.pointer (some ⟨g, 0, none⟩))) w') : wpListIn F n Tryz.prog ops Q (⟨dst, .alloc 34, ty, pos, after, none⟩ :: rest) a w :=
  wlI_val hF (fun c => nofun) (run_alloc34 w) (h _ _ (H.alloc 34 _) H.but.size)
theorem wlS_load30 (i : Nat) (hF : ∀ f, F.fn f) (H : St S w0 w L) {b : Bool} {g : Nat} {m : Int} {s : Tx} {l : Value} (h : L[i]? = some (b, g, 30, qA m s l)) (hx : a.eval x = .pointer (some ⟨g, 0, none⟩)) (k : wpListIn F n Tryz.prog ops Q rest (a.put dst (qV m s l)) w) : wpListIn F n Tryz.prog ops Q (⟨dst, .load 30 x, ty, pos, after, none⟩ :: rest) a w := wlI_load 30 hF hx (load30 (H.get i h)) k
end
section
variable {F : Fence} {n : Nat} {w : World} {ops : Array Oper} {rest : List Oper} {a : Act} {Q : Exit → Act → World → Prop} {dst : Option Nat} {ty : TypeId} {pos : String} {after : Array Edge}
theorem atI_G {op : Op} {gd : Nat × Bool} (h : wpListIn F n Tryz.prog ops Q (⟨dst, op, ty, pos, after, some gd⟩ :: rest) a w) : wpListIn F n Tryz.prog ops Q (⟨dst, op, ty, pos, after, some gd⟩ :: rest) a w := h
/-- What a guard keeps out. -/
theorem wlI_skipG {op : Op} {gd : Nat × Bool} (hF : ∀ f, F.fn f) (hw : Region.wanted ⟨dst, op, ty, pos, after, some gd⟩ (yielded ops a.tmps) = false) (k : wpListIn F n Tryz.prog ops Q rest (a.put dst undef) w) : wpListIn F n Tryz.prog ops Q (⟨dst, op, ty, pos, after, some gd⟩ :: rest) a w := by
  refine wpListIn_step fun K hK => ?_
  rw [if_neg (by rw [hw]; simp)]
  exact ⟨fun f _ => hF f, hK _ _ k⟩
end
/-- Between the rounds: the count, the answer's box, and nothing old has turned. -/
structure CkI (w0 : World) (gn gr : Nat) (k : Nat) (v : Int) (W : World) : Prop where
  n : W.heap[gn]? = some (.cells #[.int .i64 (k : Int)] 3 (0, 0))
  r : W.heap[gr]? = some (.cells #[.int .i64 v] 34 (0, 0))
  bel : Below w0.heap.size w0 W
theorem CkI.own {w0 : World} {gn gr k B : Nat} {v : Int} {W W' : World} {row : Option Nat} (h : CkI w0 gn gr k v W) (hB : w0.heap.size ≤ B) (hg : W.grownBy W' row) (hr : ∀ r, row = some r → B ≤ r ∧ ∃ o : Obj, W.heap[r]? = some o ∧ o.isCells = false) : CkI w0 gn gr k v W' := by
  have ne : ∀ g xs t, W.heap[g]? = some (.cells xs t (0, 0)) → some g ≠ row := fun g xs t h e => by
    obtain ⟨_, o, ho, hc⟩ := hr g e.symm
    rw [h] at ho
    cases ho
    cases hc
  refine ⟨(hg.block gn (Array.getElem?_eq_some_iff.1 h.n).1 (ne _ _ _ h.n)).trans h.n, (hg.block gr (Array.getElem?_eq_some_iff.1 h.r).1 (ne _ _ _ h.r)).trans h.r, h.bel.grown hg h.bel.size (fun k e => by have := (hr k e).1; omega)⟩
/-- A query that may be: 8 deep at most, each one in shape. (That they are not too many is told apart.) -/
def chkQ (q : Qy) : Prop := ∀ y ∈ emsQ 1 (⟨q.op, q.tx⟩, q.l), y.1 ≤ 8 ∧ fitQ y.2.1.o y.2.1.t y.2.2
set_option maxHeartbeats 8000000 in
set_option maxRecDepth 100000 in
theorem check_in (n : Nat) (hn : 3 ≤ n) (q : Qy) (P : Nat → Prop) (x : Value) (w : World) (T : QyV w P x q) (hsz : q.sz ≤ 4096) :
    CallsIn Fence.wide n Tryz.prog 17 #[x] w fun e w' => ∃ r : Int, e = .returned (.int .i64 r) ∧ ((chkQ q ∧ r = 0) ∨ (¬ chkQ q ∧ r = 2)) ∧ Below w.heap.size w w' := by
  obtain ⟨v, zs, rfl, ho, hp, hk⟩ := T
  obtain ⟨va, vc, hv, _, _⟩ := owns3_val ho
  subst hv
  obtain ⟨qo, qt, kids⟩ := q
  simp only at *
  obtain ⟨nd, hnd⟩ : ∃ nd : Qn, nd = ⟨qo, qt⟩ := ⟨_, rfl⟩
  obtain ⟨rfl, rfl⟩ : qo = nd.o ∧ qt = nd.t := by rw [hnd]; exact ⟨rfl, rfl⟩
  clear hnd
  have hsz2 : szQ (nd, kids) ≤ 4096 := hsz
  have hold : Hid (Kq w (fun b => b < w.heap.size) kids zs) := hk.mono (fun b hb _ => hb)
  have hown : Hid (∀ b, (Value.slice va kids.len vc).ownBlock = some b → b < w.heap.size) := fun b hb => (owns3_lt ho hb).2
  have hPr : Hid ((1, nd, kids.len) ∈ emsQ 1 (nd, kids)) := by show _ ∈ _; simp [emsQ]
  have hA : Hid (AllQ (fun d n len => (d, n, len) ∈ emsQ 1 (nd, kids)) 2 kids) := qems_all kids 2 (fun y hy => by simp [emsQ, hy])
  replace ho := hide ho
  clear hk hp
  have H := St.start Nope w
  have m0 := trivial
  refine callsIn_of_wp_marks Tryz.func17 rfl trivial ?_ rfl
  simp only [Tryz.ntmps17, List.size_toArray, List.length_cons, List.length_nil, Nat.reduceAdd, Nat.reduceSub, Array.replicate_succ, Array.replicate_zero, List.push_toArray, List.append_toArray, List.nil_append, List.cons_append]
  gi_wp2_with (first | ((with_reducible refine atI_box 30 ?_); refine wlS_box30 wide_fn H rfl ?_; clear H; intro g1 w1 H hg1) | ((with_reducible refine atI_alloc 34 ?_); refine wlS_alloc34 wide_fn H ?_; clear H; intro gr w2 H hgr) | ((with_reducible refine atI_alloc 3 ?_); refine wlS_alloc3 wide_fn H ?_; clear H; intro g w2 H hg) | ((with_reducible refine atI_store 3 ?_); refine wlS_st3 0 wide_fn H rfl rfl rfl ?_; clear H; intro w3 H) | ((with_reducible refine atI_load 30 ?_); refine wlS_load30 2 wide_fn H rfl rfl ?_))
  have hln3 := H.lti 0 rfl
  have hlr3 := H.lti 1 rfl
  refine ⟨trivial, fun h => (by cases h), (withinQ_in _ _ _ _ _).mono ?_⟩
  rintro e w5 ⟨gB, rfl, hbB, B5, hgB⟩
  replace H := H.call B5 (Nat.le_refl _)
  have hb5 := H.below
  have hs5 := hb5.size
  have hn5 := H.get 0 rfl
  have hr5 := H.get 1 rfl
  have hln := H.lti 0 rfl
  have hlr := H.lti 1 rfl
  have hne : Hid (g ≠ gr) := fun e => by
    have := H.nd
    simp [e] at this
  have hlB := (Array.getElem?_eq_some_iff.1 hbB).1
  have hgBn : Hid (gB ≠ g ∧ gB ≠ gr) := ⟨by omega, by omega⟩
  have hkw : Hid (Kc (fun k => k = g ∨ k = gr) w w5) := Kc.below hb5 (Nat.le_refl _)
  have hst := within2Q_stops (Pr := fun d n len => (d, n, len) ∈ emsQ 1 (nd, kids)) (fun k => k = g ∨ k = gr) (n - 1) gB (nd, kids) (.slice va kids.len vc) zs w5 hbB (owns3_kc ho.out hkw.out (fun b hb => by have := hown.out b hb; omega)) (fun b hb => by have := hown.out b hb; omega) (Kq.kc hkw.out (hold.out.mono (fun b _ h => by omega))) hPr.out hA.out (by omega) (by have := hgBn.out; omega) (fun k hk => by omega)
  have I0 : CkI w g gr 0 0 w5 := ⟨hn5, hr5, hb5⟩
  gi_wp2
  refine wpIn_rangeFunc_ownH rfl (by omega) (gf := 93) (lb := #[.pointer (some ⟨gB, 0, none⟩)]) rfl (wide_fn 93) (enters_of Tryz.func93 (by kernel_rfl) rfl)
    hst (fun h k => h.trans k) (fun W l o o' hl ho hc _ => ⟨by simp [World.putObj], fun k cs t fr hn e => ?kb⟩) (Below.refl _ w5) (fun _ => rfl)
    (fun pre W => CkI w g gr pre.length 0 W ∧ ∀ x ∈ pre, x.d ≤ 8 ∧ fitQ x.nd.o x.nd.t x.len)
    (fun c pre W => c = .ret ∧ ¬ chkQ ⟨nd.o, nd.t, kids⟩ ∧ ∃ k, CkI w g gr k 2 W)
    (fun pre W W' row hs hg hr => ⟨hs.1.own hs5 hg hr, hs.2⟩)
    (fun c pre W W' row hs hg hr => ⟨hs.1, hs.2.1, by obtain ⟨k, h⟩ := hs.2.2; exact ⟨k, h.own hs5 hg hr⟩⟩)
    ⟨I0, fun x hx => (by cases hx)⟩
    (fun x a' W => ∃ g5, a' = { tmps := #[qV nd.o nd.t (.slice va kids.len vc), .pointer (some ⟨g1, 0, none⟩), .pointer (some ⟨gr, 0, none⟩), .pointer (some ⟨g, 0, none⟩), .int .i64 (x.d : Int), .pointer (some ⟨g5, 0, none⟩), qV nd.o nd.t (.slice va kids.len vc), .func (.func 93) #[] #[.pointer (some ⟨gB, 0, none⟩)], .int .i64 (x.d : Int), qV x.nd.o x.nd.t (.slice x.ad x.len x.cap), undef, undef, undef, undef, undef, undef, undef, undef, undef, undef, undef, undef, undef], defers := [] } ∧ W.heap[g5]? = some (.cells (qA x.nd.o x.nd.t (.slice x.ad x.len x.cap)) 30 (0, 0)))
    (fun x a' _ W W' row hs hg hr => ?ax) ?assign ?body ?done ?stop
  case kb =>
    rw [(grownBy_putObj' W l o').block k (Array.getElem?_eq_some_iff.1 e).1 (fun h => by cases h; rw [ho] at e; cases e; cases hc)]
    exact e
  case ax =>
    obtain ⟨g5, e1, e2⟩ := hs
    refine ⟨g5, e1, (hg.block g5 (Array.getElem?_eq_some_iff.1 e2).1 (fun e => ?_)).trans e2⟩
    obtain ⟨_, o, ho, hc⟩ := hr g5 e.symm
    rw [e2] at ho
    cases ho
    cases hc
  case assign =>
    intro l pre x W K hi hK
    simp only [encW, List.zip_toArray, List.zip_cons_cons, List.zip_nil_left, List.zip_nil_right, List.foldl_toArray, List.foldl_cons, List.foldl_nil, List.setIfInBounds_toArray, List.set_cons_zero, List.set_cons_succ]
    replace hK := hide hK
    replace hi := hide hi
    gi_wp2_with (first | ((with_reducible refine atI_new30 ?_); refine wlI_new30 (round_fn l) rfl (fun _ => rfl) (fun _ => rfl) ?_; intro g5 w8 hb8 B8 hg8; replace hb8 := hide hb8; replace B8 := hide B8))
    have hbl := hi.out.1.bel.size
    exact hK.out _ w8 (but_keeps (below_but B8.out (Nat.le_refl _) (fun _ => False)) (fun k h => h.elim)) (Kc.below B8.out (Nat.le_refl _)) ⟨hi.out.1.own hs5 (below_grown B8.out) (fun r e => (by cases e)), hi.out.2⟩ ⟨g5, rfl, hb8.out⟩
  case body =>
    rintro l pre x a' W hl ⟨r, hr⟩ ⟨hi, hall⟩ ⟨g5, rfl, hb5'⟩ hlt
    have hne5 : g5 ≠ g := fun e => by
      have h := hi.n.symm.trans (e ▸ hb5')
      simp at h
    have cN := cell_row hi.n 0 (v := .int .i64 (pre.length : Int)) rfl
    have hPx := hide x.h
    have hc2 : ¬ ((4096 : Int) < (pre.length : Int) + 1) := by omega
    have hll : pre.length < 4096 := by omega
    have hNs := hide hi.n
    replace hall := hide hall
    by_cases hd : x.d ≤ 8
    · have hd2 : ¬ ((8 : Int) < (x.d : Int)) := by omega
      by_cases hfx : fitQ x.nd.o x.nd.t x.len
      · have FI := hide (fun w => isFit_ok x.nd.o x.nd.t x.ad x.len x.cap hfx w)
        replace hfx := hide hfx
        replace hi := hide hi
        replace hb5' := hide hb5'
        replace hr := hide hr
        gi_wp2_with (first | ((with_reducible refine atI_store 3 ?_); refine wlI_st3 (round_fn l) hNs.out rfl rfl ?_; intro w7 hn7 B7; have cN7 := cell_row hn7 0 (v := .int .i64 ((pre.length : Int) + 1)) rfl; replace hn7 := hide hn7; have hb7 := hide ((B7.block g5 (Array.getElem?_eq_some_iff.1 hb5'.out).1 hne5).trans hb5'.out); replace B7 := hide B7) | ((with_reducible refine atI_loadG 30 ?_); refine wlI_loadG 30 (round_fn l) rfl rfl (load30 hb7.out) ?_))
        refine ⟨trivial, fun h => (by cases h), (callsIn_wide.2 (FI.out w7)).mono ?_⟩
        rintro e w9 ⟨rfl, B9⟩
        have B79 : Hid (But (fun k => k = g) W w9) := B7.out.trans (below_but B9 (Nat.le_refl _) (fun _ => False)) (fun i _ h => h.elim)
        replace B9 := hide B9
        gi_wp2
        have hlg := (Array.getElem?_eq_some_iff.1 hn7.out).1
        have hlr9 := (Array.getElem?_eq_some_iff.1 hi.out.r).1
        refine ⟨but_keeps B79.out (fun k e => .inl (by omega)), but_kc B79.out (fun k e => .inl e), ⟨?_, ?_, ?_⟩, fun y hy => ?_⟩
        · rw [B9.out.block g hlg, hn7.out]
          simp
        · rw [B79.out.block gr hlr9 (fun e => hne.out e.symm), hi.out.r]
        · exact hi.out.bel.trans (B79.out.below hi.out.bel.size (fun k e => by omega))
        · rcases List.mem_append.1 hy with h | h
          · exact hall.out y h
          · rw [List.mem_singleton.1 h]; exact ⟨hd, hfx.out⟩
      · have FI := hide (fun w => isFit_no x.nd.o x.nd.t x.ad x.len x.cap hfx w)
        have hbad : Hid (¬ chkQ ⟨nd.o, nd.t, kids⟩) := fun h => hfx (h _ hPx.out).2
        replace hfx := hide hfx
        have hlr0 := (Array.getElem?_eq_some_iff.1 hi.r).1
        have hrh := hide hi.r
        replace hi := hide hi
        replace hb5' := hide hb5'
        replace hr := hide hr
        gi_wp2_with (first | ((with_reducible refine atI_store 3 ?_); refine wlI_st3 (round_fn l) hNs.out rfl rfl ?_; intro w7 hn7 B7; have cN7 := cell_row hn7 0 (v := .int .i64 ((pre.length : Int) + 1)) rfl; replace hn7 := hide hn7; have hb7 := hide ((B7.block g5 (Array.getElem?_eq_some_iff.1 hb5'.out).1 hne5).trans hb5'.out); replace B7 := hide B7) | ((with_reducible refine atI_loadG 30 ?_); refine wlI_loadG 30 (round_fn l) rfl rfl (load30 hb7.out) ?_))
        refine ⟨trivial, fun h => (by cases h), (callsIn_wide.2 (FI.out w7)).mono ?_⟩
        rintro e w9 ⟨rfl, B9⟩
        have B79 : Hid (But (fun k => k = g) W w9) := B7.out.trans (below_but B9 (Nat.le_refl _) (fun _ => False)) (fun i _ h => h.elim)
        have hlg := (Array.getElem?_eq_some_iff.1 hn7.out).1
        have hN9 : Hid (w9.heap[g]? = some (.cells #[.int .i64 ((pre.length : Int) + 1)] 3 (0, 0))) := by
          show w9.heap[g]? = _
          rw [B9.block g hlg, hn7.out]
        have hR9 : Hid (w9.heap[gr]? = some (.cells #[.int .i64 0] 34 (0, 0))) := by
          show w9.heap[gr]? = _
          rw [B79.out.block gr hlr0 (fun e => hne.out e.symm), hrh.out]
        have hbel9 : Hid (Below w.heap.size w w9) := hi.out.bel.trans (B79.out.below hi.out.bel.size (fun k e => by omega))
        replace B9 := hide B9
        gi_wp2_with (first | ((with_reducible refine atI_storeQ 34 ?_); refine wlI_st34 (round_fn l) hR9.out rfl rfl ?_; intro w10 hn10 B10; replace hn10 := hide hn10; replace B10 := hide B10))
        have BB : But (fun k => k = g ∨ k = gr) W w10 := (B79.out.mono (fun k h => .inl h)).trans B10.out (fun i _ h => .inr h)
        have hlg9 := (Array.getElem?_eq_some_iff.1 hN9.out).1
        refine ⟨but_keeps BB (fun k e => .inl (by omega)), rfl, hbad.out, pre.length + 1, ⟨?_, hn10.out, hbel9.out.trans (B10.out.below hbel9.out.size (fun k e => by omega))⟩⟩
        rw [B10.out.block g hlg9 hne.out, hN9.out]
        simp
    · have hd2 : (8 : Int) < (x.d : Int) := by omega
      have hbad : Hid (¬ chkQ ⟨nd.o, nd.t, kids⟩) := fun h => hd (h _ hPx.out).1
      have hlr0 := (Array.getElem?_eq_some_iff.1 hi.r).1
      have hlg0 := (Array.getElem?_eq_some_iff.1 hi.n).1
      have hrh := hide hi.r
      replace hi := hide hi
      replace hb5' := hide hb5'
      replace hr := hide hr
      gi_wp2_with (first | ((with_reducible refine atI_store 3 ?_); refine wlI_st3 (round_fn l) hNs.out rfl rfl ?_; intro w7 hn7 B7; have cN7 := cell_row hn7 0 (v := .int .i64 ((pre.length : Int) + 1)) rfl; have hR7 := hide ((B7.block gr hlr0 (fun e => hne.out e.symm)).trans hrh.out); replace hn7 := hide hn7; replace B7 := hide B7) | ((with_reducible refine atI_storeQ 34 ?_); refine wlI_st34 (round_fn l) hR7.out rfl rfl ?_; intro w10 hn10 B10; replace hn10 := hide hn10; replace B10 := hide B10) | ((with_reducible refine atI_G ?_); refine wlI_skipG (round_fn l) rfl ?_))
      have BB : But (fun k => k = g ∨ k = gr) W w10 := (B7.out.mono (fun k h => .inl h)).trans B10.out (fun i _ h => .inr h)
      have hlg9 := (Array.getElem?_eq_some_iff.1 hn7.out).1
      have hbel7 := hi.out.bel.trans (B7.out.below hi.out.bel.size (fun k e => by omega))
      refine ⟨but_keeps BB (fun k e => .inl (by omega)), rfl, hbad.out, pre.length + 1, ⟨?_, hn10.out, hbel7.trans (B10.out.below hbel7.size (fun k e => by omega))⟩⟩
      rw [B10.out.block g hlg9 hne.out, hn7.out]
      simp
  case done =>
    rintro D xs W hD hS ⟨hI, hall⟩ hK
    have hyes : chkQ ⟨nd.o, nd.t, kids⟩ := fun y hy => by
      have hy2 : y ∈ xs.map keyQ := by rw [hS]; exact hy
      obtain ⟨z, hz, rfl⟩ := List.mem_map.1 hy2
      exact hall z hz
    have hl92 := (Array.getElem?_eq_some_iff.1 hI.r).1
    have hIH := hide hI
    replace hK := hide hK
    have hr := hide hI.r
    have hbe := hide hI.bel
    clear hI
    gi_wp2_with (first | ((with_reducible refine atI_storeQ 34 ?_); refine wlI_st34 wide_fn hr.out rfl rfl ?_; intro w7 hn7 B7; replace hn7 := hide hn7; replace B7 := hide B7))
    have hlD := (Array.getElem?_eq_some_iff.1 hK.out).1
    have hK7 : w7.heap[D]? = some (.deferred (some [])) := (B7.out.block D hlD (fun e => by omega)).trans hK.out
    have B77 := grownBy_putObj' w7 D (.deferred none)
    have hn9 : (w7.putObj D (.deferred none)).heap[gr]? = some (.cells #[.int .i64 0] 34 (0, 0)) := (B77.block gr (by have := B7.out.size; omega) (fun e => by cases e; omega)).trans hn7.out
    refine ⟨by simp, .inl ⟨_, _, rfl, run_takeDeferred hK7, ?_⟩⟩
    refine ⟨_, results_cell0 rfl _ _ gr _ rfl (ld34 (cell_row hn9 0 rfl)), ?_⟩
    exact ⟨0, rfl, .inl ⟨hyes, rfl⟩, (hbe.out.trans (B7.out.below (by have := hbe.out.size; omega) (fun k e => by omega))).grown B77 (by have := hbe.out.size; have := B7.out.size; omega) (fun k e => by cases e; omega)⟩
  case stop =>
    rintro D c pre W hD hc ⟨rfl, hbad, k, hI⟩ hK
    have hl92 := (Array.getElem?_eq_some_iff.1 hI.r).1
    have hIH := hide hI
    replace hK := hide hK
    clear hI
    gi_wp2
    have B77 := grownBy_putObj' W D (.deferred none)
    have hn9 : (W.putObj D (.deferred none)).heap[gr]? = some (.cells #[.int .i64 2] 34 (0, 0)) := (B77.block gr hl92 (fun e => by cases e; omega)).trans hIH.out.r
    refine ⟨by simp, .inl ⟨_, _, rfl, run_takeDeferred hK.out, ?_⟩⟩
    refine ⟨_, results_cell0 rfl _ _ gr (.int .i64 2) rfl (ld34 (cell_row hn9 0 rfl)), ?_⟩
    exact ⟨2, rfl, .inr ⟨hbad, rfl⟩, hIH.out.bel.grown B77 hIH.out.bel.size (fun k e => by cases e; omega)⟩
theorem check_any (q : Qy) (P : Nat → Prop) (x : Value) (w : World) (T : QyV w P x q) (hsz : q.sz ≤ 4096) :
    Calls Tryz.prog 17 #[x] w fun e w' => ∃ r : Int, e = .returned (.int .i64 r) ∧ ((chkQ q ∧ r = 0) ∨ (¬ chkQ q ∧ r = 2)) ∧ Below w.heap.size w w' := callsIn_wide.1 (check_in 5 (by omega) q P x w T hsz)
end Go.Proofs.YtnffbmipllhjdaaGreatDoor.G

namespace Go.Proofs.YtnffbmipllhjdaaGreatDoor.G
open Go.RowKit Go.Shelf Go.Maps Go.WideMaps
set_option linter.unusedVariables false
set_option linter.unusedSimpArgs false
attribute [local go_sem] Oper.semAt_some

theorem clo97 : Clo 97 := fun args w => by kernel_rfl
theorem clo98 : Clo 98 := fun args w => by kernel_rfl
section
variable {S : Nat → Prop} {w0 w w' : World} {L : List Ent} {ops : Array Oper} {rest : List Oper} {a : Act} {Q : Exit → Act → World → Prop} {dst : Option Nat} {x y : Operand} {ty : TypeId} {pos : String} {after : Array Edge}
theorem wl_box102 (H : St S w0 w L) {m : Nat} (hx : a.eval x = .map (some m)) (h : ∀ g w', St S w0 w' ((true, g, 102, #[.map (some m)]) :: L) → w0.heap.size ≤ g → w.heap.size ≤ g → wpList Tryz.prog ops Q rest (a.put dst (.pointer (some ⟨g, 0, none⟩))) w') : wpList Tryz.prog ops Q (⟨dst, .box 102 x, ty, pos, after, none⟩ :: rest) a w := by
  have e : (execOp a.eval ⟨dst, .box 102 x, ty, pos, after, none⟩).run Tryz.prog w = .ok (.value (.pointer (some ⟨w.heap.size, 0, none⟩))) (w.alloc (.cells #[.map (some m)] 102)) := by
    unfold execOp
    simp only [hx]
    kernel_rfl
  exact wl_val e (h _ _ (H.alloc 102 _) H.but.size (Nat.le_refl _))
theorem wl_alloc103 (h : ∀ g w', Below w.heap.size w w' → wpList Tryz.prog ops Q rest (a.put dst (.pointer (some ⟨g, 0, none⟩))) w') : wpList Tryz.prog ops Q (⟨dst, .alloc 103, ty, pos, after, none⟩ :: rest) a w := by
  have e : (execOp a.eval ⟨dst, .alloc 103, ty, pos, after, none⟩).run Tryz.prog w = .ok (.value (.pointer (some ⟨w.heap.size, 0, none⟩))) (w.alloc (.cells #[] 103)) := by
    unfold execOp
    kernel_rfl
  exact wl_val e (h _ _ ((Below.refl _ w).alloc (Nat.le_refl _) _))
theorem wl_st103 {g : Nat} (hx : a.eval x = .pointer (some ⟨g, 0, none⟩)) (hy : a.eval y = .agg #[]) (h : wpList Tryz.prog ops Q rest a w) : wpList Tryz.prog ops Q (⟨none, .store 103 x y, ty, pos, after, none⟩ :: rest) a w := by
  refine wpList_plain rfl fun K hK => ?_
  have e : (execOp a.eval ⟨none, .store 103 x y, ty, pos, after, none⟩).run Tryz.prog w = .ok .skip w := by
    unfold execOp
    simp only [hx, hy]
    kernel_rfl
  unfold Oper.wp
  rw [e]
  exact hK _ _ h
end
/-- What a test of one's own answers of the query q. -/
def TestOk (c : Nat) (caps : Array Value) (p : Qy → Bool) (P : Nat → Prop) (w : World) (q : Qy) : Prop := ∀ w', Below w.heap.size w w' → ∀ x, QyV w' P x q → Calls Tryz.prog c (#[x] ++ caps) w' fun e w2 => e = .returned (.bool (p q)) ∧ Below w'.heap.size w' w2
theorem any_take_false {p : Qy → Bool} {l : List Qy} {k : Nat} {q : Qy} (h : ∀ j, j < k → ∀ x, l[j]? = some x → p x = false) (hq : l[k]? = some q) (hp : p q = false) : ∀ j, j < k + 1 → ∀ x, l[j]? = some x → p x = false := fun j hj x hx => by
  by_cases e : j = k
  · subst e; rw [hq] at hx; cases hx; exact hp
  · exact h j (by omega) x hx
set_option maxHeartbeats 4000000 in
set_option maxRecDepth 100000 in
theorem indexQ_any (f : Qf) (P : Nat → Prop) (v : Value) (zs : List Value) (c : Nat) (hc : Clo c) (caps : Array Value) (p : Qy → Bool) (w : World) (ho : w.ownsRow 0 30 3 v f.len zs) (hk : Kq w P f zs) (hln : f.len ≤ 1000000) (ht : ∀ q ∈ f.ls, TestOk c caps p P w q) :
    Calls Tryz.prog 148 #[v, .func (.func c) #[] caps] w fun e w' => ∃ r : Int, e = .returned (.int .i64 r) ∧ decide (0 ≤ r) = f.ls.any p ∧ Below w.heap.size w w' := by
  obtain ⟨va, vc, rfl, _, _⟩ := owns3_val ho
  have child := hide (fun k q h => row_nth ho hk k q h)
  replace ht := hide ht
  have hlen := len_ls f
  clear ho hk
  go_enter Tryz.func148, Tryz.ntmps148
  go_wp2
  go_loopw [8] (fun iv wr => ∃ k : Nat, k ≤ f.len ∧ iv = .int .i64 (k : Int) ∧ Hid (∀ j, j < k → ∀ x, f.ls[j]? = some x → p x = false) ∧ Hid (Below w.heap.size w wr)) (fun iv _ => f.len - (intOf iv).toNat)
  case atStart => exact ⟨0, Nat.zero_le _, rfl, fun j hj => by omega, Below.refl _ _⟩
  case round =>
    obtain ⟨k, hk, rfl, hno, hb⟩ := hrel
    by_cases hlt : k < f.len
    · have i3 : (k : Int) < (f.len : Int) := by omega
      obtain ⟨q, hq⟩ : ∃ q, f.ls[k]? = some q := ⟨_, List.getElem?_eq_getElem (by omega)⟩
      obtain ⟨g, cv, hva, hone, hld⟩ := child.out k q hq
      subst hva
      obtain ⟨hqv, hl⟩ := hld wr (Kr.below hb.out (Nat.le_refl _))
      have hl1 := hide hl
      have TT := hide (ht.out q (List.mem_of_getElem? hq) wr hb.out _ hqv)
      have hqH := hide hq
      clear hld hqv hl hq
      go_wp2_with (first | ((with_reducible refine at_load 30 ?_); refine wl_loadA 30 rfl hl1.out ?_) | ((with_reducible refine at_clo ?_); refine wl_clo1 (u1 := qV q.op q.tx cv) rfl rfl hc ?_))
      refine TT.out.mono ?_
      rintro e w2 ⟨rfl, B2⟩
      have b2 := hide (hb.out.trans (B2.mono hb.out.size))
      refine ⟨_, rfl, ?_⟩
      clear B2 TT
      cases hp : p q with
      | true =>
        have hany : Hid (f.ls.any p = true) := List.any_eq_true.2 ⟨q, List.mem_of_getElem? hqH.out, hp⟩
        replace hp := hide hp
        go_wp2
        go_ret
        exact ⟨(k : Int), rfl, by rw [hany.out]; simp, b2.out⟩
      | false =>
        have hno2 := hide (any_take_false hno.out hqH.out hp)
        replace hp := hide hp
        go_wp2
        go_roundw
        case rel => exact ⟨k + 1, by omega, by simp, hno2, b2⟩
        case measure => simp [intOf]; omega
    · obtain rfl : k = f.len := by omega
      have i4 : ¬ ((f.len : Int) < (f.len : Int)) := by omega
      have hany : Hid (f.ls.any p = false) := by
        show _ = _
        rw [List.any_eq_false]
        intro q hq
        obtain ⟨j, hj⟩ := List.getElem?_of_mem hq
        rw [hno.out j (by have := (List.getElem?_eq_some_iff.1 hj).1; omega) q hj]
        simp
      go_wp2
      go_ret
      exact ⟨-1, rfl, by rw [hany.out]; simp, hb.out⟩
set_option maxHeartbeats 4000000 in
set_option maxRecDepth 100000 in
theorem containsQ_any (f : Qf) (P : Nat → Prop) (v : Value) (zs : List Value) (c : Nat) (hc : Clo c) (caps : Array Value) (p : Qy → Bool) (w : World) (ho : w.ownsRow 0 30 3 v f.len zs) (hk : Kq w P f zs) (hln : f.len ≤ 1000000) (ht : ∀ q ∈ f.ls, TestOk c caps p P w q) :
    Calls Tryz.prog 96 #[v, .func (.func c) #[] caps] w fun e w' => e = .returned (.bool (f.ls.any p)) ∧ Below w.heap.size w w' := by
  have IX := hide (indexQ_any f P v zs c hc caps p w ho hk hln ht)
  clear ho hk ht
  go_enter Tryz.func96, Tryz.ntmps96
  go_wp2_with (go_at_call 148; refine IX.out.mono ?_)
  intro e w2 hR
  obtain ⟨r, he, hr, B2⟩ := hR
  subst he
  have B2h := hide B2
  have hrh := hide hr
  clear hr B2 IX
  go_wp2
  go_ret
  refine ⟨?_, B2h.out⟩
  rw [← hrh.out]
  rfl
end Go.Proofs.YtnffbmipllhjdaaGreatDoor.G

namespace Go.Proofs.YtnffbmipllhjdaaGreatDoor.G
open Go.RowKit Go.Shelf Go.Maps Go.WideMaps
set_option linter.unusedVariables false
set_option linter.unusedSimpArgs false
attribute [local go_sem] Oper.semAt_some

theorem ok_mems : ∀ {f : Qf}, f.ok → ∀ q ∈ f.ls, q.ok
  | .nil, _, q, h => by simp [Qf.ls] at h
  | .cons o t k r, h, q, hq => by
    rcases List.mem_cons.1 hq with rfl | hq
    · exact ⟨h.1, h.2.1⟩
    · exact ok_mems h.2.2 q hq
theorem sz_mems {f : Qf} {q : Qy} (h : q ∈ f.ls) : q.sz ≤ f.sz := by
  rw [← sz_ls]
  exact sum_mem Qy.sz h
/-- fits of q, as it is told of any memory. -/
def FitOk (q : Qy) : Prop := ∀ (P : Nat → Prop) (x : Value) (w : World) (m : Nat) (had : List Tx), QyV w P x q → SetT w m had → Calls Tryz.prog 52 #[x, .map (some m)] w fun e w' => e = .returned (.bool (q.fit had)) ∧ Below w.heap.size w w'
set_option maxHeartbeats 4000000 in
set_option maxRecDepth 100000 in
theorem fit1_any (q : Qy) (h : FitOk q) (P : Nat → Prop) (b m : Nat) (had : List Tx) (w : World) (hb : w.heap[b]? = some (.cells #[.map (some m)] 102 (0, 0))) (hs : SetT w m had) : TestOk 97 #[.pointer (some ⟨b, 0, none⟩)] (fun q => !q.fit had) P w q := by
  intro w' hw x hx
  show Calls Tryz.prog 97 #[x, .pointer (some ⟨b, 0, none⟩)] w' _
  have F := hide (fun (w2 : World) (h2 : Below w'.heap.size w' w2) => h P x w2 m had (hx.kept (fun k _ hl => h2.block k hl)) (hs.block ((h2.block m (by have := hs.lt; have := hw.size; omega)).trans (hw.block m hs.lt))))
  have hbw : w'.heap[b]? = some (.cells #[.map (some m)] 102 (0, 0)) := (hw.block b (Array.getElem?_eq_some_iff.1 hb).1).trans hb
  have hbl := (Array.getElem?_eq_some_iff.1 hbw).1
  obtain ⟨v, zs, rfl, _⟩ := hx
  have hbwH := hide hbw
  have H := St.start Nope w'
  clear hs hb hbw h
  go_enter Tryz.func97, Tryz.ntmps97
  go_wp2_with (first | ((with_reducible refine at_box 30 ?_); refine wl_box30 H rfl ?_; clear H; intro g1 w1 H q1 q2; have hb1 := H.below; have cb := (hb1.cell (p := ⟨b, 0, none⟩) hbl).trans (cell_row hbwH.out 0 (v := .map (some m)) rfl)) | ((with_reducible refine at_load 30 ?_); refine wl_load30 0 H rfl rfl ?_) | ((with_reducible refine at_load 102 ?_); refine wl_loadA 102 rfl (ld102 cb) ?_) | (go_at_call 52; refine (F.out _ hb1).mono ?_))
  rintro e w2 ⟨rfl, B2⟩
  have b2 := hide (hb1.trans (B2.mono hb1.size))
  clear B2 F cb
  go_wp2
  go_ret
  exact ⟨rfl, b2.out⟩
set_option maxHeartbeats 4000000 in
set_option maxRecDepth 100000 in
theorem fit2_any (q : Qy) (h : FitOk q) (P : Nat → Prop) (b m : Nat) (had : List Tx) (w : World) (hb : w.heap[b]? = some (.cells #[.map (some m)] 102 (0, 0))) (hs : SetT w m had) : TestOk 98 #[.pointer (some ⟨b, 0, none⟩)] (fun q => q.fit had) P w q := by
  intro w' hw x hx
  show Calls Tryz.prog 98 #[x, .pointer (some ⟨b, 0, none⟩)] w' _
  have F := hide (fun (w2 : World) (h2 : Below w'.heap.size w' w2) => h P x w2 m had (hx.kept (fun k _ hl => h2.block k hl)) (hs.block ((h2.block m (by have := hs.lt; have := hw.size; omega)).trans (hw.block m hs.lt))))
  have hbw : w'.heap[b]? = some (.cells #[.map (some m)] 102 (0, 0)) := (hw.block b (Array.getElem?_eq_some_iff.1 hb).1).trans hb
  have hbl := (Array.getElem?_eq_some_iff.1 hbw).1
  obtain ⟨v, zs, rfl, _⟩ := hx
  have hbwH := hide hbw
  have H := St.start Nope w'
  clear hs hb hbw h
  go_enter Tryz.func98, Tryz.ntmps98
  go_wp2_with (first | ((with_reducible refine at_box 30 ?_); refine wl_box30 H rfl ?_; clear H; intro g1 w1 H q1 q2; have hb1 := H.below; have cb := (hb1.cell (p := ⟨b, 0, none⟩) hbl).trans (cell_row hbwH.out 0 (v := .map (some m)) rfl)) | ((with_reducible refine at_load 30 ?_); refine wl_load30 0 H rfl rfl ?_) | ((with_reducible refine at_load 102 ?_); refine wl_loadA 102 rfl (ld102 cb) ?_) | (go_at_call 52; refine (F.out _ hb1).mono ?_))
  rintro e w2 ⟨rfl, B2⟩
  have b2 := hide (hb1.trans (B2.mono hb1.size))
  clear B2 F cb
  go_wp2
  go_ret
  exact ⟨rfl, b2.out⟩
theorem any_not_all (l : List Qy) (had : List Tx) : (!l.any (fun q => !q.fit had)) = l.all (fun q => q.fit had) := by
  induction l with
  | nil => rfl
  | cons a r ih => simp only [List.any_cons, List.all_cons, Bool.not_or, Bool.not_not, ih]
theorem fit_op3 (t : Tx) (l : Qf) (had : List Tx) : (⟨3, t, l⟩ : Qy).fit had = l.ls.all (fun q => q.fit had) := by
  show fitN 3 t (l.fs had) had = _
  rw [fs_ls]
  simp [fitN]
theorem fit_op4 (t : Tx) (l : Qf) (had : List Tx) : (⟨4, t, l⟩ : Qy).fit had = l.ls.any (fun q => q.fit had) := by
  show fitN 4 t (l.fs had) had = _
  rw [fs_ls]
  simp [fitN]
set_option maxHeartbeats 8000000 in
set_option maxRecDepth 100000 in
theorem fits_any : ∀ (N : Nat) (q : Qy), q.sz ≤ N → q.sz ≤ 1000000 → q.ok → FitOk q := by
  intro N
  induction N with
  | zero => intro q h; simp [Qy.sz] at h
  | succ N ih =>
    rintro ⟨qo, qt, kids⟩ hN hsz hok P x w m had hx hs
    have ihH : Hid (∀ q ∈ kids.ls, FitOk q) := fun q hq => by
      have h1 := sz_mems hq
      simp only [Qy.sz] at hN hsz
      exact ih q (by omega) (by omega) (ok_mems hok.2 q hq)
    have hln : kids.len ≤ 1000000 := by have := qlen_le_sz kids; simp only [Qy.sz] at hsz; omega
    clear ih
    have hshape := hok.1
    obtain ⟨v, zs, rfl, ho, hp, hk⟩ := hx
    obtain ⟨va, vc, rfl, _, _⟩ := owns3_val ho
    simp only at *
    have H := St.start Nope w
    have hsH := hide hs
    have hml := hs.lt
    have hown := hide ho
    have hkk := hide hk
    clear hs ho hk hok hp
    rcases hshape with ⟨h01, rfl, rfl⟩ | ⟨rfl, ht3, rfl⟩ | ⟨h34, rfl⟩
    · rcases h01 with rfl | rfl
      · go_enter Tryz.func52, Tryz.ntmps52
        go_wp2_with (first | ((with_reducible refine at_box 30 ?_); refine wl_box30 H rfl ?_; clear H; intro g1 w1 H q1 q2) | ((with_reducible refine at_box 102 ?_); refine wl_box102 H rfl ?_; clear H; intro g2 w2 H q3 q4; have c0 := H.cell 1 0 rfl (v := .int .i64 0) rfl; have hb2 := hide H.below; clear H))
        go_ret
        exact ⟨rfl, hb2.out⟩
      · go_enter Tryz.func52, Tryz.ntmps52
        go_wp2_with (first | ((with_reducible refine at_box 30 ?_); refine wl_box30 H rfl ?_; clear H; intro g1 w1 H q1 q2) | ((with_reducible refine at_box 102 ?_); refine wl_box102 H rfl ?_; clear H; intro g2 w2 H q3 q4; have c0 := H.cell 1 0 rfl (v := .int .i64 1) rfl; have hb2 := hide H.below; clear H))
        go_ret
        exact ⟨rfl, hb2.out⟩
    · have hkey := hkey9 (s := qt) (by rw [ht3]; unfold maxLen; omega)
      obtain ⟨nn, D, hn1, hmap, hhas⟩ := hsH.out.map
      have hh := hhas qt
      have hfit : Hid ((⟨2, qt, .nil⟩ : Qy).fit had = decide (qt ∈ had)) := rfl
      have hmapH := hide hmap
      clear hmap hhas
      go_enter Tryz.func52, Tryz.ntmps52
      go_wp2_with (first | ((with_reducible refine at_box 30 ?_); refine wl_box30 H rfl ?_; clear H; intro g1 w1 H q1 q2) | ((with_reducible refine at_box 102 ?_); refine wl_box102 H rfl ?_; clear H; intro g2 w2 H q3 q4; have hb2 := hide H.below; have hown2 := hide (ownsMap_block hmapH.out (hb2.out.block m hml))) | ((with_reducible refine at_load 3 ?_); refine wl_ld3 1 0 H (v := .int .i64 2) rfl rfl rfl ?_) | ((with_reducible refine at_load 102 ?_); refine wl_loadA 102 rfl (ld102 (H.cell 0 0 rfl rfl)) ?_) | ((with_reducible refine at_load 9 ?_); refine wl_loadA 9 rfl (ld9 (H.cell 1 1 rfl (v := encStr qt) rfl)) ?_) | (at_lookup; refine wpList_lookup_own_unit _ rfl _ _ 102 rfl 9 103 law9 Tryz.underlying102 (zero103 _) m nn D rfl hown2.out _ (txkey qt) rfl hkey ?_; rw [hh]) | ((with_reducible refine at_alloc 103 ?_); refine wl_alloc103 ?_; intro g7 w7 B7; have hb7 := hide (hb2.out.trans (B7.mono hb2.out.size)); clear H) | ((with_reducible refine at_store 103 ?_); refine wl_st103 rfl rfl ?_))
      go_ret
      exact ⟨by rw [hfit.out]; rfl, hb7.out⟩
    · rcases h34 with rfl | rfl
      · have hfit : Hid ((⟨3, [], kids⟩ : Qy).fit had = !kids.ls.any (fun q => !q.fit had)) := by
          show _ = _
          rw [any_not_all, fit_op3]
        go_enter Tryz.func52, Tryz.ntmps52
        go_wp2_with (first | ((with_reducible refine at_box 30 ?_); refine wl_box30 H rfl ?_; clear H; intro g1 w1 H q1 q2) | ((with_reducible refine at_box 102 ?_); refine wl_box102 H rfl ?_; clear H; intro g2 w2 H q3 q4; have hb2 := H.below; have CC := hide (containsQ_any kids P _ zs 97 clo97 #[.pointer (some ⟨g2, 0, none⟩)] (fun q => !q.fit had) w2 (owns3_of_block hown.out (fun k hk => hb2.block k (owns3_lt hown.out hk).2)) (hkk.out.kept (fun b _ hl => hb2.block b hl)) hln (fun q hq => fit1_any q (ihH.out q hq) P g2 m had w2 (H.get 0 rfl) (hsH.out.block (hb2.block m hml))))) | ((with_reducible refine at_load 3 ?_); refine wl_ld3 1 0 H (v := .int .i64 3) rfl rfl rfl ?_) | ((with_reducible refine at_load 28 ?_); refine wl_ld28q 1 2 H (v := .slice va kids.len vc) rfl rfl rfl ?_) | (go_at_call 96; refine CC.out.mono ?_))
        rintro e w4 ⟨rfl, B4⟩
        have b4 := hide (hb2.trans (B4.mono hb2.size))
        clear B4 CC H
        generalize kids.ls.any (fun q => !q.fit had) = bb at *
        go_wp2
        go_ret
        exact ⟨by rw [hfit.out]; rfl, b4.out⟩
      · have hfit : Hid ((⟨4, [], kids⟩ : Qy).fit had = kids.ls.any (fun q => q.fit had)) := fit_op4 _ _ _
        go_enter Tryz.func52, Tryz.ntmps52
        go_wp2_with (first | ((with_reducible refine at_box 30 ?_); refine wl_box30 H rfl ?_; clear H; intro g1 w1 H q1 q2) | ((with_reducible refine at_box 102 ?_); refine wl_box102 H rfl ?_; clear H; intro g2 w2 H q3 q4; have hb2 := H.below; have CC := hide (containsQ_any kids P _ zs 98 clo98 #[.pointer (some ⟨g2, 0, none⟩)] (fun q => q.fit had) w2 (owns3_of_block hown.out (fun k hk => hb2.block k (owns3_lt hown.out hk).2)) (hkk.out.kept (fun b _ hl => hb2.block b hl)) hln (fun q hq => fit2_any q (ihH.out q hq) P g2 m had w2 (H.get 0 rfl) (hsH.out.block (hb2.block m hml))))) | ((with_reducible refine at_load 3 ?_); refine wl_ld3 1 0 H (v := .int .i64 4) rfl rfl rfl ?_) | ((with_reducible refine at_load 28 ?_); refine wl_ld28q 1 2 H (v := .slice va kids.len vc) rfl rfl rfl ?_) | (go_at_call 96; refine CC.out.mono ?_))
        rintro e w4 ⟨rfl, B4⟩
        have b4 := hide (hb2.trans (B4.mono hb2.size))
        clear B4 CC H
        generalize kids.ls.any (fun q => q.fit had) = bb at *
        go_wp2
        go_ret
        exact ⟨by rw [hfit.out]; rfl, b4.out⟩
end Go.Proofs.YtnffbmipllhjdaaGreatDoor.G

namespace Go.Proofs.YtnffbmipllhjdaaGreatDoor.G
open Go.RowKit Go.Shelf Go.Maps Go.WideMaps
set_option linter.unusedVariables false
set_option linter.unusedSimpArgs false
attribute [local go_sem] Oper.semAt_some

theorem chk_oks : ∀ (f : Qf) (d : Nat), (∀ y ∈ f.ems d, fitQ y.2.1.o y.2.1.t y.2.2) → f.ok
  | .nil, _, _ => trivial
  | .cons o t k r, d, h => by
    refine ⟨?_, chk_oks k (d + 1) (fun y hy => h y (by simp [Qf.ems, hy])), chk_oks r d (fun y hy => h y (by simp [Qf.ems, hy]))⟩
    have h1 := h (d, ⟨o, t⟩, k.len) (by simp [Qf.ems])
    have hk0 : k.len = 0 → k = .nil := fun e => by
      cases k with
      | nil => rfl
      | cons _ _ _ _ => simp [Qf.len] at e
    rcases h1 with ⟨h1, h2, h3⟩ | ⟨h1, h2, h3⟩ | h1
    · exact .inl ⟨h1, h2, hk0 h3⟩
    · exact .inr (.inl ⟨h1, h2, hk0 h3⟩)
    · exact .inr (.inr h1)
theorem chk_ok {q : Qy} (h : chkQ q) : q.ok := by
  have := chk_oks (.cons q.op q.tx q.l .nil) 1 (fun y hy => by
    refine (h y ?_).2
    simpa [Qf.ems, emsQ] using hy)
  exact ⟨this.1, this.2.1⟩
theorem fit_same {q : Qy} {had had' : List Tx} (h : ∀ x, x ∈ had ↔ x ∈ had') : q.fit had = q.fit had' := by
  rw [Bool.eq_iff_iff]
  exact ⟨fit_mono (fun x hx => (h x).1 hx), fit_mono (fun x hx => (h x).2 hx)⟩
/-- Between the rounds of Fits. -/
structure FiI (w5 : World) (m : Nat) (pr : List Tx) (W : World) : Prop where
  s : SetT W m pr
  b : But (fun k => k = m) w5 W
theorem FiI.own {w5 : World} {m B : Nat} {pr : List Tx} {W W' : World} {row : Option Nat} (h : FiI w5 m pr W) (hm : m < w5.heap.size) (hB : w5.heap.size ≤ B) (hg : W.grownBy W' row) (hr : ∀ r, row = some r → B ≤ r ∧ ∃ o : Obj, W.heap[r]? = some o ∧ o.isCells = false) : FiI w5 m pr W' :=
  ⟨h.s.kept hg (fun e => by have := (hr m e.symm).1; omega), h.b.grown hg (fun k e hk => by have := (hr k e).1; omega)⟩
set_option maxHeartbeats 8000000 in
set_option maxRecDepth 100000 in
theorem fitsF_in (n : Nat) (hn : 5 ≤ n) (q : Qy) (hsz : q.sz ≤ 4096) (P : Nat → Prop) (x : Value) (s : Tx) (hs : s.length ≤ 1000000) (w : World) (T : QyV w P x q) :
    CallsIn Fence.wide n Tryz.prog 22 #[x, encStr s] w fun e w' => ∃ (b : Bool) (r : Int), e = .returned (.tuple #[.bool b, .int .i64 r]) ∧ ((chkQ q ∧ r = 0 ∧ b = q.fit (gramsOf s)) ∨ (¬ chkQ q ∧ r = 2 ∧ b = false)) ∧ Below w.heap.size w w' := by
  have CK := hide (fun (w' : World) (hb : Below w.heap.size w w') => check_any q _ x w' ((T.mono (P' := fun b => b < w.heap.size) (fun b hb _ => hb)).kept (fun b _ hl => hb.block b hl)) hsz)
  have TH := hide (T.mono (P' := fun b => b < w.heap.size) (fun b hb _ => hb))
  obtain ⟨va, m0, c0, rfl⟩ := T.slice
  clear T
  have hmm := @run_makeMap Tryz.prog
  refine callsIn_of_wp_marks Tryz.func22 rfl trivial ?_ rfl
  simp only [Tryz.ntmps22, List.size_toArray, List.length_cons, List.length_nil, Nat.reduceAdd, Nat.reduceSub, Array.replicate_succ, Array.replicate_zero, List.push_toArray, List.append_toArray, List.nil_append, List.cons_append]
  gi_wp2_with (first | ((with_reducible refine atI_box 30 ?_); refine wlI_box30 wide_fn rfl ?_; intro g2 w1 hb2 B1 hg2; have hl2 := load30 hb2; replace hb2 := hide hb2) | ((with_reducible refine atI_load 30 ?_); refine wlI_load 30 wide_fn rfl hl2 ?_))
  refine ⟨trivial, fun h => (by cases h), (callsIn_wide.2 (CK.out w1 B1)).mono ?_⟩
  rintro e w2 ⟨r, rfl, hr, B2⟩
  have b2 := hide (B1.trans (B2.mono B1.size))
  have hbox2 := hide ((B2.block g2 (Array.getElem?_eq_some_iff.1 hb2.out).1).trans hb2.out)
  rcases hr with ⟨hyes, rfl⟩ | ⟨hbad, rfl⟩
  · have hok := hide (chk_ok hyes)
    replace hyes := hide hyes
    have hg2l := hide (Array.getElem?_eq_some_iff.1 hbox2.out).1
    clear hl2 hb2 B1 B2 CK
    gi_wp2_with (first | ((with_reducible refine atI_allocQ 102 ?_); refine wlI_alloc102 wide_fn ?_; intro g7 w4 e7 h7 B4 s4; replace e7 := hide e7; replace s4 := hide s4) | ((with_reducible refine atI_storeQ 102 ?_); refine wlI_st102 wide_fn h7 rfl rfl ?_; intro w5 h75 B5 s5; replace h75 := hide h75; replace s5 := hide s5))
    have e7o := e7.out
    have s4o := s4.out
    have s5o := s5.out
    have m3 : (w2.alloc (Obj.map #[] 0)).heap.size = w2.heap.size + 1 := by simp
    have B3 := (Below.refl _ w2).alloc (Nat.le_refl _) (Obj.map #[] 0)
    have bb5 : Below w2.heap.size w2 w5 := (B3.trans (B4.mono (by omega))).trans (B5.below (by omega) (fun k e => by omega))
    have hset5 : SetT w5 w2.heap.size [] := (setT_made w2).block ((B5.block _ (by omega) (fun e => by omega)).trans (B4.block _ (by omega)))
    replace bb5 := hide bb5
    replace hset5 := hide hset5
    clear h7 B4 B5 B3 m3 e7o s4o s5o
    have sa2 : Hid ((w2.alloc (Obj.map #[] 0)).heap.size = w2.heap.size + 1) := by show _ = _; simp
    refine ⟨trivial, fun h => (by cases h), (grams_in _ s w5).mono ?_⟩
    rintro e w6 ⟨rfl, e6⟩
    have hB6 : Hid (w6.heap[w5.heap.size]? = some (.cells #[encStr s] 9 (0, 0))) := by
      show _ = _
      rw [e6]; exact heap_alloc_new w5 _
    have B6 : Hid (Below w5.heap.size w5 w6) := by
      show Below _ _ _
      rw [e6]; exact (Below.refl _ w5).alloc (Nat.le_refl _) _
    clear e6
    gi_wp2
    have hmlt := hset5.out.lt
    have hset6 := hset5.out.block (B6.out.block _ hmlt)
    have s56 := B6.out.size
    have hst := grams1_stops (fun _ => False) (n - 1) (by omega) w5.heap.size s (by omega) (fun h => h) w6 hB6.out
    have I0 : FiI w6 w2.heap.size [] w6 := ⟨hset6, But.refl _ _⟩
    have h76 := hide ((B6.out.block _ (Array.getElem?_eq_some_iff.1 h75.out).1).trans h75.out)
    have h76l := (Array.getElem?_eq_some_iff.1 h76.out).1
    have hwl := winds_len s
    have e7H : Hid (g7 = w2.heap.size + 1) := by show _ = _; rw [e7.out, sa2.out]
    have b6 := hide (b2.out.trans ((bb5.out.trans (B6.out.mono bb5.out.size)).mono b2.out.size))
    have hg26 := hide ((B6.out.block _ (by have := bb5.out.size; have := hg2l.out; omega)).trans ((bb5.out.block _ hg2l.out).trans hbox2.out))
    have hg26l := (Array.getElem?_eq_some_iff.1 hg26.out).1
    have s26 := bb5.out.size
    refine wpIn_rangeB rfl (by omega) (gf := 89) (lb := #[.pointer (some ⟨w5.heap.size, 0, none⟩)]) rfl (wide_fn 89) (enters_of Tryz.func89 (by kernel_rfl) rfl) hst
      (fun h k => h.trans k) (fun Wd l o o' hl ho hc _ => ⟨by simp [World.putObj], fun k cs t fr _ e => (World.putObj_heap_other (fun h => by rw [h, ho] at e; cases e; cases hc)).trans e⟩)
      (Below.refl _ w6) (fun _ => rfl)
      (fun pr Wd => FiI w6 w2.heap.size pr Wd)
      (fun _ _ _ => False)
      (fun pr Wd Wd' row hs hg hr => hs.own (by omega) (Nat.le_refl _) hg hr)
      (fun _ _ _ _ _ hs _ _ => hs) I0
      (fun x a' Wd => ∃ (u0 u1 u4 u5 u6 u9 u10 u11 u12 u13 u14 u15 u16 u17 u18 u19 u20 u21 u22 u23 : Value), a' = { tmps := #[u0, u1, .pointer (some ⟨g2, 0, none⟩), u4, u5, u6, u9, .pointer (some ⟨g7, 0, none⟩), encStr x, u10, u11, u12, u13, u14, u15, u16, u17, u18, u19, u20, u21, u22, u23, undef], defers := [] })
      (fun x a' _ Wd Wd' row hs hg' hr => hs) ?assign ?body ?done ?stop
    case assign =>
      intro l2 pr x Wd K hi hK
      simp only [encT, List.zip_toArray, List.zip_cons_cons, List.zip_nil_left, List.zip_nil_right, List.foldl_toArray, List.foldl_cons, List.foldl_nil, List.setIfInBounds_toArray, List.set_cons_zero, List.set_cons_succ]
      replace hK := hide hK
      replace hi := hide hi
      gi_wp2
      exact hK.out _ Wd ⟨Nat.le_refl _, fun _ _ _ h _ => h⟩ (Kc.refl _ _) hi.out ⟨_, _, _, _, _, _, _, _, _, _, _, _, _, _, _, _, _, _, _, _, rfl⟩
    case body =>
      rintro l2 pr x a' Wd hl ⟨r, hr⟩ hI ⟨u0, u1, u4, u5, u6, u9, u10, u11, u12, u13, u14, u15, u16, u17, u18, u19, u20, u21, u22, u23, rfl⟩ hY hsz
      have hprl : pr.length ≤ 1000000 := by have := hY.length_le; simp at this; omega
      have hxl : x.length = 3 := winds_three (hY.subset (by simp))
      have hkey := hkey9 (s := x) (by rw [hxl]; unfold maxLen; omega)
      have hnx : pr.length < maxLen := by unfold maxLen; omega
      obtain ⟨nn, D, hnn, hown, hhas⟩ := hI.s.map
      have hT7 := (hI.b.block g7 h76l (fun e => by have := e7H.out; omega)).trans h76.out
      have cT := cell_row hT7 0 (v := .map (some w2.heap.size)) rfl
      have hownH := hide hown
      have hhasH := hide hhas
      have hIH := hide hI
      replace hr := hide hr
      clear hI hT7 hown hhas hY
      gi_wp2_with (first | ((with_reducible refine atI_load 102 ?_); refine wlI_load 102 (round_fn l2) rfl (ld102 cT) ?_) | (gi_at_mapUpdate; refine wpListIn_mapUpdate_own _ rfl (.tmp 18) (.tmp 19) (.tmp 20) 102 rfl 9 103 law9 Tryz.underlying102 unitElem _ nn D rfl hownH.out (by omega) _ _ (txkey x) rfl rfl hkey (.agg []) [] unitElem_mk ?_; intro w8 hown8 hg8; replace hown8 := hide hown8; replace hg8 := hide hg8))
      obtain ⟨o, ho1, ho2⟩ := hIH.out.s.obj
      have m8 : SetT w8 w2.heap.size (pr ++ [x]) := ⟨nn + 1, _, by rw [List.length_append]; simp; omega, hown8.out, fun s => by
        by_cases e : s = x
        · subst e
          rw [has_put_same hownH.out.isMap (show WideAt.IsKeyLit (txkey s) from trivial), decide_eq_true (by simp)]
        · rw [has_put_other (fun h => e (by simpa using h)), hhasH.out s]
          congr 1
          rw [List.mem_append, List.mem_singleton]
          exact propext ⟨fun h => .inl h, fun h => h.elim id (fun h => absurd h e)⟩⟩
      refine ⟨⟨hg8.out.size, fun k o hk ho _ => (hg8.out.block k (Array.getElem?_eq_some_iff.1 ho).1 (fun e => by cases e; omega)).trans ho⟩, ⟨hg8.out.size, fun k cs t fr _ h => (hg8.out.block k (Array.getElem?_eq_some_iff.1 h).1 (fun e => by
        cases e
        rw [ho1] at h
        cases h
        cases ho2)).trans h⟩, m8, hIH.out.b.grown hg8.out (fun k e _ => by cases e; rfl)⟩
    case done =>
      rintro D xs Wd hD hS hI hK
      rw [hS] at hI
      have hF := fits_any 4096 q hsz (by omega) hok.out _ (qV q.op q.tx (.slice va m0 c0)) Wd w2.heap.size (winds s) (TH.out.kept (fun b hb _ => (hI.b.block b (by have := b6.out.size; omega) (fun e => by have := b2.out.size; omega)).trans (b6.out.block b hb))) hI.s
      have cT := cell_row ((hI.b.block g7 h76l (fun e => by have := e7H.out; omega)).trans h76.out) 0 (v := .map (some w2.heap.size)) rfl
      have hl30 := load30 ((hI.b.block g2 hg26l (fun e => by have := hg2l.out; omega)).trans hg26.out)
      have belD := hide (b6.out.trans (hI.b.below b6.out.size (fun k e => by have := b2.out.size; omega)))
      have hfs : Hid (q.fit (winds s) = q.fit (gramsOf s)) := fit_same (fun x => mem_ups.symm)
      have hFH := hide hF
      have hDl := hide (Array.getElem?_eq_some_iff.1 hK).1
      replace hI := hide hI
      replace hK := hide hK
      clear hF
      gi_wp2_with (first | ((with_reducible refine atI_load 30 ?_); refine wlI_load 30 wide_fn rfl hl30 ?_) | ((with_reducible refine atI_load 102 ?_); refine wlI_load 102 wide_fn rfl (ld102 cT) ?_))
      refine ⟨trivial, fun h => (by cases h), (callsIn_wide.2 hFH.out).mono ?_⟩
      rintro e W7 ⟨rfl, B7⟩
      have hK7 : W7.heap[D]? = some (.deferred (some [])) := (B7.block D hDl.out).trans hK.out
      have bel7 := hide (belD.out.trans (B7.mono belD.out.size))
      replace hK7 := hide hK7
      clear B7
      gi_wp2
      have B77 := grownBy_putObj' W7 D (.deferred none)
      refine ⟨by simp, .inl ⟨_, _, rfl, run_takeDeferred hK7.out, ?_⟩⟩
      refine ⟨_, results_tmp2 rfl _ _ _, _, _, rfl, .inl ⟨hyes.out, rfl, hfs.out⟩, ?_⟩
      exact bel7.out.grown B77 bel7.out.size (fun k e => by cases e; have := b6.out.size; omega)
    case stop => rintro D cc pr Wd hD hS h; exact h.elim
  · replace hbad := hide hbad
    clear hl2 hb2 B1 B2 CK
    gi_wp2
    exact ⟨_, results_tmp2 rfl _ _ _, false, 2, rfl, .inr ⟨hbad.out, rfl, rfl⟩, b2.out⟩
theorem fitsF_any (q : Qy) (hsz : q.sz ≤ 4096) (P : Nat → Prop) (x : Value) (s : Tx) (hs : s.length ≤ 1000000) (w : World) (T : QyV w P x q) :
    Calls Tryz.prog 22 #[x, encStr s] w fun e w' => ∃ (b : Bool) (r : Int), e = .returned (.tuple #[.bool b, .int .i64 r]) ∧ ((chkQ q ∧ r = 0 ∧ b = q.fit (gramsOf s)) ∨ (¬ chkQ q ∧ r = 2 ∧ b = false)) ∧ Below w.heap.size w w' := callsIn_wide.1 (fitsF_in 5 (by omega) q hsz P x s hs w T)
end Go.Proofs.YtnffbmipllhjdaaGreatDoor.G

namespace Go.Proofs.YtnffbmipllhjdaaGreatDoor.G
open Go.RowKit Go.Shelf Go.Lib
set_option linter.unusedVariables false
set_option linter.unusedSimpArgs false

theorem infoP5 : ∃ i, Tryz.prog.info? 85 = some i ∧ i.zero = some (pV false nilS 0 [] nilS) ∧ i.size = 5 ∧ i.bytes = 80 := by
  have h : (Tryz.prog.info? 85).map (fun i => (i.zero, i.size, i.bytes)) = some (some (pV false nilS 0 [] nilS), 5, 80) := infoP
  cases hi : Tryz.prog.info? 85 with
  | none => rw [hi] at h; cases h
  | some i =>
    rw [hi] at h
    simp only [Option.map_some, Option.some.injEq, Prod.mk.injEq] at h
    exact ⟨i, rfl, h.1, h.2.1, h.2.2⟩
/-- The same cells, so many times. -/
def rpL (c : List Value) : Nat → List Value
  | 0 => []
  | k + 1 => c ++ rpL c k
theorem rpL_len {c : List Value} (h : c.length = 5) : ∀ k, (rpL c k).length = k * 5
  | 0 => rfl
  | k + 1 => by simp [rpL, rpL_len h k, h]; omega
theorem rpL_add (c : List Value) : ∀ k j, rpL c (k + j) = rpL c k ++ rpL c j
  | 0, j => by simp [rpL]
  | k + 1, j => by rw [show k + 1 + j = k + j + 1 by omega]; simp [rpL, rpL_add c k j]
theorem rpL_mem {c : List Value} : ∀ k, ∀ v ∈ rpL c k, v ∈ c
  | 0, v, h => by simp [rpL] at h
  | k + 1, v, h => by
    simp only [rpL, List.mem_append] at h
    rcases h with h | h
    · exact h
    · exact rpL_mem k v h
def z5 : List Value := (pA false nilS 0 [] nilS).toList
theorem z5_len : z5.length = 5 := rfl
theorem rpL_get {c : List Value} (hc : c.length = 5) : ∀ n j, j < n * 5 → (rpL c n)[j]? = c[j % 5]? := fun n => by
  induction n with
  | zero => intro j h; omega
  | succ n ih =>
    intro j h
    by_cases hj : j < 5
    · rw [rpL, List.getElem?_append_left (by omega), Nat.mod_eq_of_lt hj]
    · rw [rpL, List.getElem?_append_right (by omega), hc, ih (j - 5) (by omega)]
      congr 1
      omega
theorem made5 (n : Nat) : (madeCells (pV false nilS 0 [] nilS).cells (n * 5)).toList = rpL z5 n := by
  apply List.ext_getElem?
  intro j
  by_cases hj : j < n * 5
  · rw [rpL_get z5_len n j hj]
    have h5 : j % 5 < 5 := Nat.mod_lt _ (by omega)
    rcases (show j % 5 = 0 ∨ j % 5 = 1 ∨ j % 5 = 2 ∨ j % 5 = 3 ∨ j % 5 = 4 by omega) with h | h | h | h | h <;> simp [madeCells, hj, h, pV, pA, Value.cells, z5, encStr]
  · rw [List.getElem?_eq_none (by simp [madeCells]; omega), List.getElem?_eq_none (by rw [rpL_len z5_len]; omega)]
/-- copy of codes, as it runs. -/
theorem run_copy5 (w : World) (ty : TypeId) (g o dLen dCap : Nat) (a : Addr) (sLen sCap : Nat) (cur : Array Value) (cs : List Value) (hg : w.heap[g]? = some (.cells cur 85 (0, 0))) (hn : cs.length = Nat.min sLen dLen * 5)
    (hsrc : ∀ j v, cs[j]? = some v → w.cell? (a.add j) = some v) (hfit : o + cs.length ≤ cur.size) (h1 : ∀ v ∈ cs, v.oneCell' = true) :
    (Builtin.copy_ #[142, 142] ty #[.slice (some ⟨g, o, none⟩) dLen dCap, .slice (some a) sLen sCap]).run Tryz.prog w =
      .ok (goInt (Nat.min sLen dLen)) (w.setRow g (cur.toList.take o ++ cs ++ cur.toList.drop (o + cs.length)).toArray) := by
  have hl := run_loadCells_list (P := Tryz.prog) w a cs hsrc
  have hst := run_storeCells_at Tryz.prog g o 85 cs 0 cur w hg (by simpa using hfit) h1
  obtain ⟨i, hi, _, hs, _⟩ := infoP5
  simp [Builtin.copy_, run_underlying Tryz.underlying142, Builtin.lenOf, Builtin.firstCells, sizeOf, typeInfo, hi, hs, ← hn, hl, hst]
section
variable {S : Nat → Prop} {w0 w w' : World} {L : List Ent} {ops : Array Oper} {rest : List Oper} {o : Oper} {a : Act} {Q : Exit → Act → World → Prop} {K : Act → World → Prop} {E : Prop} {dst : Option Nat} {x y : Operand} {ty : TypeId} {pos : String} {after : Array Edge}
theorem at_makeP (t : TypeId) (h : wpList Tryz.prog ops Q (⟨dst, .makeSlice t x y, ty, pos, after, none⟩ :: rest) a w) : wpList Tryz.prog ops Q (⟨dst, .makeSlice t x y, ty, pos, after, none⟩ :: rest) a w := h
/-- A slice of codes is made. -/
theorem wl_make142 {n : Nat} (hn : n ≤ 1000000) (hx : a.eval x = .int .i64 (n : Int)) (hy : a.eval y = .int .i64 (n : Int)) (k : ∀ g w2, g = w.heap.size → w2.heap[g]? = some (.cells (rpL z5 n).toArray 85 (0, 0)) → Below w.heap.size w w2 → wpList Tryz.prog ops Q rest (a.put dst (.slice (some ⟨g, 0, none⟩) n n)) w2) :
    wpList Tryz.prog ops Q (⟨dst, .makeSlice 142 x y, ty, pos, after, none⟩ :: rest) a w := by
  obtain ⟨i, hi, hz, hs, hb⟩ := infoP5
  have hr := run_make (P := Tryz.prog) w 142 85 i (pV false nilS 0 [] nilS) Tryz.underlying142 hi hz .i64 .i64 (n : Int) (n : Int) (by omega) (Int.le_refl _) (by rw [hb]; omega) (by omega)
  refine wl_val (w' := w.alloc (.cells (madeCells (pV false nilS 0 [] nilS).cells (n * 5)) 85)) ?_ (k _ _ rfl (by rw [heap_alloc_new, ← made5 n]) ((Below.refl _ w).alloc (Nat.le_refl _) _))
  unfold execOp
  simp only [hx, hy, Sem.run_bind, hr, Result.andThen_ok, Sem.run_pure, Int.toNat_natCast, hs]
theorem at_copyP (h : wpList Tryz.prog ops Q (⟨dst, .call { callee := .builtin .copy, args := #[x, y], argTypes := #[142, 142] }, ty, pos, after, none⟩ :: rest) a w) : wpList Tryz.prog ops Q (⟨dst, .call { callee := .builtin .copy, args := #[x, y], argTypes := #[142, 142] }, ty, pos, after, none⟩ :: rest) a w := h
theorem wl_copy142 {v1 v2 u : Value} (hx : a.eval x = v1) (hy : a.eval y = v2) (hr : (Builtin.copy_ #[142, 142] ty #[v1, v2]).run Tryz.prog w = .ok u w') (h : wpList Tryz.prog ops Q rest (a.put dst u) w') : wpList Tryz.prog ops Q (⟨dst, .call { callee := .builtin .copy, args := #[x, y], argTypes := #[142, 142] }, ty, pos, after, none⟩ :: rest) a w := by
  refine wl_val ?_ h
  simp [execOp, resolve, invoke, builtin, hx, hy, hr, Result.andThen]
theorem step_copy142 (hgd : o.guard = none) (s x : Operand) (ho : o.op = .call { callee := .builtin .copy, args := #[s, x], argTypes := #[142, 142] }) (v1 v2 v' : Value) (w' : World) (hs : a.eval s = v1) (hx : a.eval x = v2)
    (hr : (Builtin.copy_ #[142, 142] o.type #[v1, v2]).run Tryz.prog w = .ok v' w') (h : K (a.put o.dst v') w') :
    if Region.wanted o (yielded ops a.tmps) = true then Oper.wp Tryz.prog o a w K Q else E := by
  have hw : Region.wanted o (yielded ops a.tmps) = true := by simp [Region.wanted, hgd]
  rw [if_pos hw]
  unfold Oper.wp
  simp [execOp, ho, resolve, invoke, builtin, hs, hx, hr, Result.andThen]
  exact h
end
/-- Between the rounds of Repeat: m of n are filled. -/
structure RpJ (w : World) (g n : Nat) (c : List Value) (m : Nat) (W : World) : Prop where
  row : W.heap[g]? = some (.cells (rpL c m ++ rpL z5 (n - m)).toArray 85 (0, 0))
  bel : Below w.heap.size w W
  le : w.heap.size ≤ g
theorem RpJ.copy {w W : World} {g n m : Nat} {c : List Value} (hc5 : c.length = 5) (hc1 : ∀ v ∈ c, v.oneCell' = true) (h : RpJ w g n c m W) (hm : m < n) (ty : TypeId) : ∃ W', (Builtin.copy_ #[142, 142] ty #[.slice (some ⟨g, m * 5, none⟩) (n - m) (n - m), .slice (some ⟨g, 0, none⟩) m n]).run Tryz.prog W = .ok (goInt (Nat.min m (n - m))) W' ∧ RpJ w g n c (m + Nat.min m (n - m)) W' := by
  obtain ⟨k, hk⟩ : ∃ k, k = Nat.min m (n - m) := ⟨_, rfl⟩
  have hk1 : k ≤ m := by rw [hk]; exact Nat.min_le_left _ _
  have hk2 : k ≤ n - m := by rw [hk]; exact Nat.min_le_right _ _
  have hl : (rpL c k).length = k * 5 := rpL_len hc5 k
  refine ⟨_, run_copy5 W ty g (m * 5) (n - m) (n - m) ⟨g, 0, none⟩ m n _ (rpL c k) h.row (by rw [hl, hk]) (fun j v hj => ?_) (by simp [rpL_len hc5, rpL_len z5_len]; omega) (fun v hv => hc1 v (rpL_mem k v hv)), ?_, ?_, h.le⟩
  · rw [add_plain, Nat.zero_add, cell_of_row W g j _ 85 (0, 0) h.row]
    have e : rpL c m = rpL c k ++ rpL c (m - k) := by rw [← rpL_add]; congr 1; omega
    rw [e, List.append_assoc]
    have hj' := (List.getElem?_eq_some_iff.1 hj).1
    simp only [List.getElem?_toArray]
    rw [List.getElem?_append_left hj']
    exact hj
  · rw [← hk]
    rw [setRow_heap W g _ _ 85 (0, 0) h.row]
    have e : rpL z5 (n - m) = rpL z5 k ++ rpL z5 (n - (m + k)) := by rw [← rpL_add]; congr 1; omega
    have l1 := rpL_len hc5 m
    have l2 := rpL_len z5_len k
    congr 2
    rw [rpL_add, e, List.append_assoc]
    simp only [List.toList_toArray]
    rw [List.take_append_of_le_length (by omega), List.take_of_length_le (by omega)]
    rw [List.drop_append, List.drop_append]
    simp [l1, l2, hl]
    rw [List.drop_eq_nil_of_le (by omega), List.drop_eq_nil_of_le (by omega)]
    simp
  · exact h.bel.trans ⟨rfl, rfl, rfl, by simp [World.setRow], fun j hj => setRow_other W g j _ (by have := h.le; omega)⟩
set_option maxHeartbeats 2000000 in
set_option maxRecDepth 100000 in
theorem repeatP_any (w : World) (gs : Nat) (c : List Value) (n : Nat) (hn : n ≤ 1000) (hc5 : c.length = 5) (hc1 : ∀ v ∈ c, v.oneCell' = true) (hgs : w.heap[gs]? = some (.cells c.toArray 85 (0, 0))) :
    Calls Tryz.prog 133 #[.slice (some ⟨gs, 0, none⟩) 1 1, .int .i64 (n : Int)] w fun e w' => ∃ g, e = .returned (.slice (some ⟨g, 0, none⟩) n n) ∧ w.heap.size ≤ g ∧ w'.heap[g]? = some (.cells (rpL c n).toArray 85 (0, 0)) ∧ Below w.heap.size w w' := by
  have hgl := (Array.getElem?_eq_some_iff.1 hgs).1
  have hu : (IntKind.u64.wrap (n : Int)) = (n : Int) := by rw [IntKind.wrap_u64]; omega
  have hu2 : (IntKind.i64.wrap (n : Int)) = (n : Int) := by rw [IntKind.wrap_i64]; omega
  have n1 : ¬ ((n : Int) < 0) := by omega
  have MU := hide (mul_any 1 n (by omega) (by omega) w)
  rw [show 1 * n / 18446744073709551616 = 0 by omega, show 1 * n % 18446744073709551616 = n by omega] at MU
  have m1 : ¬ ((9223372036854775807 : Int) < (n : Int)) := by omega
  obtain ⟨m0, hm0⟩ : ∃ m0, m0 = Nat.min 1 n := ⟨_, rfl⟩
  replace hgs := hide hgs
  go_enter Tryz.func133, Tryz.ntmps133
  go_wp2_with fail
  refine MU.out.mono ?_
  rintro e w1 ⟨rfl, rfl⟩
  have hq : Hid (∀ (g : Nat) (w2 : World) (ty : TypeId), g = w1.heap.size → w2.heap[g]? = some (.cells (rpL z5 n).toArray 85 (0, 0)) → Below w1.heap.size w1 w2 → ∃ w3, (Builtin.copy_ #[142, 142] ty #[.slice (some ⟨g, 0, none⟩) n n, .slice (some ⟨gs, 0, none⟩) 1 1]).run Tryz.prog w2 = .ok (.int .i64 (m0 : Int)) w3 ∧ RpJ w1 g n c m0 w3) := fun g w2 ty hg hrow B2 => by
    have hl : (rpL c m0).length = m0 * 5 := rpL_len hc5 _
    have hm1 : m0 ≤ 1 := by rw [hm0]; exact Nat.min_le_left _ _
    have hm2 : m0 ≤ n := by rw [hm0]; exact Nat.min_le_right _ _
    have hc := run_copy5 w2 ty g 0 n n ⟨gs, 0, none⟩ 1 1 _ (rpL c m0) hrow (by rw [hl, hm0]) (fun j v hj => by
      rw [add_plain, Nat.zero_add, cell_of_row w2 gs j _ 85 (0, 0) ((B2.block gs hgl).trans hgs.out)]
      rcases (show m0 = 0 ∨ m0 = 1 by omega) with h | h
      · rw [h] at hj; simp [rpL] at hj
      · rw [h] at hj
        simpa [rpL] using hj) (by simp [rpL_len hc5, rpL_len z5_len]; omega) (fun v hv => hc1 v (rpL_mem _ v hv))
    rw [← hm0] at hc
    refine ⟨_, hc, ?_, B2.trans ⟨rfl, rfl, rfl, by simp [World.setRow], fun j hj => setRow_other w2 g j _ (by omega)⟩, by omega⟩
    rw [setRow_heap w2 g _ _ 85 (0, 0) hrow]
    have e : rpL z5 n = rpL z5 m0 ++ rpL z5 (n - m0) := by rw [← rpL_add]; congr 1; omega
    have l2 := rpL_len z5_len m0
    congr 2
    simp only [List.take_zero, List.nil_append, Nat.zero_add]
    rw [hl, e, List.drop_append]
    simp [l2]
  have hm3 : Hid (m0 ≤ n ∧ (n = 0 ∨ 0 < m0)) := by
    show _ ∧ _
    have h1 : m0 = min 1 n := hm0
    omega
  replace hm0 := hide hm0
  go_wp2_with (first | ((with_reducible refine at_makeP 142 ?_); refine wl_make142 (n := n) (by omega) rfl rfl ?_; intro g w2 hg hrow B2; obtain ⟨w3, hcp, hRp⟩ := hq.out g w2 3 hg hrow B2; replace hcp := hide hcp; replace hRp := hide hRp; replace hg := hide hg; replace hrow := hide hrow; replace B2 := hide B2) | ((with_reducible refine at_copyP ?_); refine wl_copy142 rfl rfl hcp.out ?_))
  go_loopw [8] (fun mv wr => ∃ m : Nat, mv = .int .i64 (m : Int) ∧ m ≤ n ∧ Hid (n = 0 ∨ 0 < m) ∧ Hid (RpJ w1 g n c m wr)) (fun mv _ => n - (intOf mv).toNat)
  case atStart => exact ⟨m0, rfl, hm3.out.1, hm3.out.2, hRp⟩
  case round =>
    obtain ⟨m, rfl, hmn, hm0', hR⟩ := hrel
    by_cases hlt : m < n
    · have i1 : (m : Int) < (n : Int) := by omega
      have i2 : (m : Int) ≤ (n : Int) := by omega
      have i3 : (0 : Int) ≤ (m : Int) := by omega
      obtain ⟨w5, hcp5, hR5⟩ := (⟨hR.out.row, hR.out.bel.drew, hR.out.le⟩ : RpJ w1 g n c m wr.drew).copy hc5 hc1 hlt 3
      have hif : (if n = m then (some ⟨g, 0, none⟩ : Option Addr) else some ⟨g, m * 5, none⟩) = some ⟨g, m * 5, none⟩ := if_neg (by omega)
      obtain ⟨k5, hk5⟩ : ∃ k5, k5 = Nat.min m (n - m) := ⟨_, rfl⟩
      obtain ⟨d5, hd5⟩ : ∃ d5, d5 = n - m := ⟨_, rfl⟩
      rw [← hk5] at hcp5 hR5
      have hk6 : 0 < k5 := by
        have h1 : k5 = min m (n - m) := hk5
        have := hm0'.out
        omega
      have hk7 : k5 ≤ n - m := by rw [hk5]; exact Nat.min_le_right _ _
      have e5 : IntKind.i64.wrap ((m : Int) + (k5 : Int)) = ((m + k5 : Nat) : Int) := by rw [IntKind.wrap_i64]; omega
      replace hcp5 := hide hcp5
      replace hR5 := hide hR5
      replace hk5 := hide hk5
      have hltH := hide hlt
      have hcopy : Hid (∀ w', w' = wr → True) := fun _ _ => trivial
      go_wp2_with fail
      refine wp_region_noPanic ?_
      refine wp_region_held_drew (S := (fun _ => True)) (by kernel_rfl) trivial (fun hH0 => ?_)
      refine wpAnyH_take (i := 0) (oi := { dst := some 38, op := Op.move (Operand.tmp 8), type := 3, pos := "slices.go:528", after := #[], guard := none }) (v := ?_) rfl (by kernel_rfl) (by kernel_rfl) (by kernel_rfl) (fun _ _ _ h => h) (Or.inl ⟨by rfl, ?_⟩) hH0 ?_
      rotate_left
      · intro w' hw'
        obtain _ := hw'
        go_simp
        try with_reducible rfl
      try simp only [Act.put, List.setIfInBounds_toArray, List.set_cons_zero, List.set_cons_succ]
      refine wpAnyH_take (i := 1) (oi := { dst := some 39, op := Op.move (Operand.tmp 7), type := 142, pos := "slices.go:528", after := #[], guard := none }) (v := ?_) rfl (by kernel_rfl) (by kernel_rfl) (by kernel_rfl) (fun _ _ _ h => h) (Or.inl ⟨by rfl, ?_⟩) hH0 ?_
      rotate_left
      · intro w' hw'
        obtain _ := hw'
        go_simp
        try with_reducible rfl
      try simp only [Act.put, List.setIfInBounds_toArray, List.set_cons_zero, List.set_cons_succ]
      refine wpAnyH_take (i := 2) (oi := { dst := some 40, op := Op.move (Operand.tmp 8), type := 3, pos := "slices.go:528", after := #[], guard := none }) (v := ?_) rfl (by kernel_rfl) (by kernel_rfl) (by kernel_rfl) (fun _ _ _ h => h) (Or.inl ⟨by rfl, ?_⟩) hH0 ?_
      rotate_left
      · intro w' hw'
        obtain _ := hw'
        go_simp
        try with_reducible rfl
      try simp only [Act.put, List.setIfInBounds_toArray, List.set_cons_zero, List.set_cons_succ]
      refine wpAnyH_take (i := 3) (oi := { dst := some 41, op := Op.slice 142 (Operand.tmp 39) (some (Operand.tmp 40)) none none, type := 142, pos := "slices.go:528", after := #[{ on := 1, ground := Ground.data }, { on := 2, ground := Ground.data }], guard := none }) (v := ?_) rfl (by kernel_rfl) (by kernel_rfl) (by kernel_rfl) (fun _ _ _ h => h) (Or.inl ⟨by rfl, ?_⟩) hH0 ?_
      rotate_left
      · intro w' hw'
        obtain _ := hw'
        go_simp
        try with_reducible rfl
      try simp only [Act.put, List.setIfInBounds_toArray, List.set_cons_zero, List.set_cons_succ]
      refine wpAnyH_take (i := 4) (oi := { dst := some 42, op := Op.move (Operand.tmp 7), type := 142, pos := "slices.go:528", after := #[], guard := none }) (v := ?_) rfl (by kernel_rfl) (by kernel_rfl) (by kernel_rfl) (fun _ _ _ h => h) (Or.inl ⟨by rfl, ?_⟩) hH0 ?_
      rotate_left
      · intro w' hw'
        obtain _ := hw'
        go_simp
        try with_reducible rfl
      try simp only [Act.put, List.setIfInBounds_toArray, List.set_cons_zero, List.set_cons_succ]
      refine wpAnyH_take (i := 5) (oi := { dst := some 43, op := Op.move (Operand.tmp 8), type := 3, pos := "slices.go:528", after := #[], guard := none }) (v := ?_) rfl (by kernel_rfl) (by kernel_rfl) (by kernel_rfl) (fun _ _ _ h => h) (Or.inl ⟨by rfl, ?_⟩) hH0 ?_
      rotate_left
      · intro w' hw'
        obtain _ := hw'
        go_simp
        try with_reducible rfl
      try simp only [Act.put, List.setIfInBounds_toArray, List.set_cons_zero, List.set_cons_succ]
      refine wpAnyH_take (i := 6) (oi := { dst := some 44, op := Op.slice 142 (Operand.tmp 42) none (some (Operand.tmp 43)) none, type := 142, pos := "slices.go:528", after := #[{ on := 4, ground := Ground.data }, { on := 5, ground := Ground.data }], guard := none }) (v := ?_) rfl (by kernel_rfl) (by kernel_rfl) (by kernel_rfl) (fun _ _ _ h => h) (Or.inl ⟨by rfl, ?_⟩) hH0 ?_
      rotate_left
      · intro w' hw'
        obtain _ := hw'
        go_simp
        try with_reducible rfl
      try simp only [Act.put, List.setIfInBounds_toArray, List.set_cons_zero, List.set_cons_succ]
      refine wpAnyH_ready (rs := [7]) (by kernel_rfl) (by simp) ?_
      refine AllReadyH.cons (o := { dst := some 45, op := Op.call { callee := Callee.builtin Builtin.copy, args := #[Operand.tmp 41, Operand.tmp 44], argTypes := #[142, 142] }, type := 3, pos := "slices.go:528", after := #[{ on := 3, ground := Ground.data }, { on := 6, ground := Ground.data }], guard := none }) rfl (fun K hK => ?_) AllReadyH.nil
      refine step_copy142 rfl (.tmp 41) (.tmp 44) rfl _ _ _ _ rfl rfl hcp5.out ?_
      refine hK.out _ _ trivial (fun hH1 => ?_)
      clear hK
      try simp only [Act.put, List.setIfInBounds_toArray, List.set_cons_zero, List.set_cons_succ]
      refine wpAnyH_take (i := 8) (oi := { dst := some 46, op := Op.binOp BinOp.add 3 (Operand.tmp 38) (Operand.tmp 45) 3, type := 3, pos := "slices.go:528", after := #[{ on := 0, ground := Ground.data }, { on := 7, ground := Ground.data }], guard := none }) (v := ?_) rfl (by kernel_rfl) (by kernel_rfl) (by kernel_rfl) (fun _ _ _ h => h) (Or.inl ⟨by rfl, ?_⟩) hH1 ?_
      rotate_left
      · intro w' hw'
        obtain _ := hw'
        go_simp
        try with_reducible rfl
      try simp only [Act.put, List.setIfInBounds_toArray, List.set_cons_zero, List.set_cons_succ]
      refine wpAnyH_take (i := 9) (oi := { dst := some 8, op := Op.assign (Operand.tmp 46), type := 3, pos := "slices.go:528", after := #[{ on := 8, ground := Ground.data }, { on := 7, ground := Ground.chain }, { on := 0, ground := Ground.phase }, { on := 1, ground := Ground.phase }, { on := 2, ground := Ground.phase }, { on := 3, ground := Ground.phase }, { on := 4, ground := Ground.phase }, { on := 5, ground := Ground.phase }, { on := 6, ground := Ground.phase }, { on := 7, ground := Ground.phase }, { on := 8, ground := Ground.phase }], guard := none }) (v := ?_) rfl (by kernel_rfl) (by kernel_rfl) (by kernel_rfl) (fun _ _ _ h => h) (Or.inl ⟨by rfl, ?_⟩) hH1 ?_
      rotate_left
      · intro w' hw'
        obtain _ := hw'
        go_simp
        try with_reducible rfl
      try simp only [Act.put, List.setIfInBounds_toArray, List.set_cons_zero, List.set_cons_succ]
      refine wpAnyH_done (by kernel_rfl) ?_ _
      refine NoPanic.normal ?_
      go_wp2_with fail
      go_roundw
      case rel => exact ⟨m + k5, by go_num, by omega, Or.inr (by omega), hR5⟩
      case measure => simp [intOf]; omega
    · obtain rfl : m = n := by omega
      go_wp2_with fail
      go_ret
      refine ⟨g, rfl, hR.out.le, ?_, hR.out.bel⟩
      have := hR.out.row
      simpa [rpL] using this
end Go.Proofs.YtnffbmipllhjdaaGreatDoor.G

namespace Go.Proofs.YtnffbmipllhjdaaGreatDoor.G
open Go.RowKit Go.Shelf
set_option linter.unusedVariables false
set_option linter.unusedSimpArgs false
attribute [local go_sem] Oper.semAt_some

theorem run_bs142 (b : Bool) (tv : Value) (o : Int) (t : Tx) (lv : Value) (w : World) : (Instr.buildSlice 142 1 #[(0, pV b tv o t lv)]).run Tryz.prog w = .ok (.slice (some ⟨w.heap.size, 0, none⟩) 1 1) (w.alloc (.cells (pA b tv o t lv) 85)) := by kernel_rfl
section
variable {S : Nat → Prop} {w0 w w' : World} {L : List Ent} {ops : Array Oper} {rest : List Oper} {a : Act} {Q : Exit → Act → World → Prop} {dst : Option Nat} {x y : Operand} {ty : TypeId} {pos : String} {after : Array Edge}
theorem at_bs142 {ps : Array (Nat × Operand)} {m : Nat} (h : wpList Tryz.prog ops Q (⟨dst, .buildSlice 142 m ps, ty, pos, after, none⟩ :: rest) a w) : wpList Tryz.prog ops Q (⟨dst, .buildSlice 142 m ps, ty, pos, after, none⟩ :: rest) a w := h
theorem wl_bs142 (H : St S w0 w L) {b : Bool} {tv : Value} {o : Int} {t : Tx} {lv : Value} (hx : a.eval x = pV b tv o t lv) (k : ∀ g w', St S w0 w' ((true, g, 85, pA b tv o t lv) :: L) → w0.heap.size ≤ g → w.heap.size ≤ g → wpList Tryz.prog ops Q rest (a.put dst (.slice (some ⟨g, 0, none⟩) 1 1)) w') : wpList Tryz.prog ops Q (⟨dst, .buildSlice 142 1 #[(0, x)], ty, pos, after, none⟩ :: rest) a w := by
  refine wpList_plain rfl fun K hK => ?_
  unfold Oper.wp execOp
  simp only [List.map_toArray, List.map_cons, List.map_nil, hx, Sem.run_bind, run_bs142, Result.andThen_ok, Sem.run_pure]
  exact hK _ _ (k _ _ (H.alloc 85 _) H.but.size (Nat.le_refl _))
end
theorem PaL.rep {w : World} {P : Nat → Prop} {b : Bool} {tv : Value} {o : Int} {t : Tx} {lv : Value} {p : Pt} (h : PaV w P (pV b tv o t lv) p) : ∀ n, PaL w P (List.replicate n p) (rpL (pA b tv o t lv).toList n)
  | 0 => rfl
  | n + 1 => ⟨b, tv, o, t, lv, _, rfl, h, PaL.rep h n⟩
theorem repeated_no {p : Pt} {mn mx : Int} (h : ¬ (mn = mx ∧ (longest (List.replicate mn.toNat p)).2 = mn.toNat)) : repeated p mn mx = if mn = 0 then .ask allQ else .ask p.asked := by unfold repeated; rw [if_neg h]
set_option maxHeartbeats 8000000 in
set_option maxRecDepth 100000 in
/-- From where the texts, if any, were looked for on. -/
theorem repeated_any (p : Pt) (hB : PtB p) (P : Nat → Prop) (x : Value) (mn : Nat) (mx : Int) (hmn : mn ≤ 64) (w : World) (hx : PaV w P x p) (hPw : ∀ b, P b → b < w.heap.size) :
    Calls Tryz.prog 79 #[x, .int .i64 (mn : Int), .int .i64 mx] w fun e w' => ∃ z, e = .returned z ∧ PaV w' (fun b => P b ∨ w.heap.size ≤ b) z (repeated p (mn : Int) mx) ∧ Below w.heap.size w w' := by
  obtain ⟨b, tv, o, t, lv, rfl, hto, hlo⟩ := hx.form
  have H := St.start Nope w
  have AK := hide (fun (w' : World) (hb : Below w.heap.size w w') => ask_any p hB P _ w' (hx.kept (fun b _ hl => hb.block b hl)) (fun b h => by have := hPw b h; have := hb.size; omega))
  have hxh := hide hx
  replace hB := hide hB
  clear hx
  have c5 : (pA b tv o t lv).toList.length = 5 := rfl
  have c1 : ∀ v ∈ (pA b tv o t lv).toList, v.oneCell' = true := fun u hu => Array.all_eq_true'.1 (pA_one (b := b) (o := o) (t := t) hto hlo) u (by simpa using hu)
  replace c5 := hide c5
  replace c1 := hide c1
  -- how it goes on where no texts are told
  have Tail : Hid (∀ (w4 : World) (g1 g2 : Nat) (L : List Ent), True) := fun _ _ _ _ => trivial
  by_cases hmm : (mn : Int) = mx
  · subst hmm
    have hLO := hide (fun (v : Value) (zs : List Value) (w' : World) (ho : w'.ownsRow 0 85 5 v mn zs) (hk : PaL w' P (List.replicate mn p) zs) (hP : ∀ b, P b → b < w'.heap.size) => longest_any (List.replicate mn p) (fun q hq => by rw [List.eq_of_mem_replicate hq]; exact hB.out) P v zs w' (by rw [List.length_replicate]; exact ho) hk hP (by rw [List.length_replicate]; omega))
    go_enter Tryz.func79, Tryz.ntmps79
    go_wp2_with (first | ((with_reducible refine at_box 85 ?_); refine wl_box85 (b := b) (tv := tv) (o := o) (t := t) (l := lv) H rfl ?_; clear H; intro g1 w1 H q1 q2) | ((with_reducible refine at_alloc 85 ?_); refine wl_alloc85 H ?_; clear H; intro g2 w2 H q3 q4) | ((with_reducible refine at_load 85 ?_); refine wl_loadA 85 rfl (load85 (H.get 1 rfl)) ?_) | ((with_reducible refine at_bs142 ?_); refine wl_bs142 (b := b) (tv := tv) (o := o) (t := t) (lv := lv) H rfl ?_; clear H; intro g3 w3 H q5 q6; have RP := hide (repeatP_any w3 g3 _ mn (by omega) c5.out c1.out (H.get 0 rfl)); have hb3 := H.below; have hg2 := H.lti 1 rfl; have hg1 := H.lti 2 rfl) | (go_at_call 133; refine RP.out.mono ?_))
    rintro e w4 ⟨g4, rfl, q7, hrow, B4⟩
    have b4 := hb3.trans (B4.mono hb3.size)
    have ho4 : w4.ownsRow 0 85 5 (.slice (some ⟨g4, 0, none⟩) mn mn) mn (rpL (pA b tv o t lv).toList mn) := by
      have hl := rpL_len c5.out mn
      refine ⟨by simp [hl], .inr ⟨g4, mn, _, rfl, Nat.zero_le _, hrow, Nat.le_refl _, by unfold maxLen; omega, by simp [hl], ?_⟩⟩
      simp only [List.toList_toArray]
      exact List.take_of_length_le (by omega)
    have LO := hide (hLO.out _ _ w4 ho4 (PaL.rep (hxh.out.kept (fun b _ hl => b4.block b hl)) mn) (fun b h => by have := hPw b h; have := b4.size; omega))
    have H4 := H.call B4 (Nat.le_refl _)
    clear H RP hrow ho4 B4
    go_wp2_with (go_at_call 130; refine LO.out.mono ?_)
    rintro e w5 ⟨tv5, rfl, o5, B5⟩
    have H5 := H4.call B5 (Nat.le_refl _)
    have b5 := b4.trans (B5.mono b4.size)
    have s45 := B5.size
    have h2g := hide (H5.get 1 rfl)
    have h1g := hide (H5.get 2 rfl)
    have hg5 : g2 < w4.heap.size := by have := H4.lti 1 rfl; omega
    clear H4 LO
    generalize hln : (longest (List.replicate mn p)).2 = ln at *
    replace hln := hide hln
    by_cases hlm : ln = mn
    · subst hlm
      obtain ⟨ta, tc, rfl⟩ := row_slice o5
      have hfin : Hid (repeated p (ln : Int) (ln : Int) = .told (longest (List.replicate ln p)).1) := by
        show _ = _
        unfold repeated
        rw [Int.toNat_natCast, if_pos ⟨rfl, hln.out⟩]
      have o5h := hide o5
      clear o5 B5 b4
      go_wp2_with (first | ((with_reducible refine at_build85 ?_); refine wl_val (run_build85_t _ ta _ tc rfl rfl _) ?_) | ((with_reducible refine at_store 85 ?_); refine wl_storeT 85 (v := pV true (.slice ta (longest (List.replicate ln p)).1.length tc) 0 [] nilS) rfl rfl (store85r h2g.out rfl rfl) ?_))
      refine bodyPost_ret (results_cell0 rfl _ _ _ _ rfl (load85 (setRow_heap _ _ _ _ 85 (0, 0) h2g.out))) rfl ?_
      have hpv : PaV w5 (fun b => w4.heap.size ≤ b) (pV true (.slice ta (longest (List.replicate ln p)).1.length tc) 0 [] nilS) (.told (longest (List.replicate ln p)).1) := ⟨_, rfl, ownsT_mono o5h.out (Nat.zero_le _), fun b hb => (ownT1_lt o5h.out hb).1⟩
      obtain ⟨r1, r2⟩ := ret85 h2g.out b5 q3 hpv (fun h => by omega)
      refine ⟨_, rfl, ?_, r2⟩
      rw [hfin.out]
      exact r1.mono (fun b _ hb => .inr (by have := hb3.size; omega))
    · have i1 : ¬ ((ln : Int) = (mn : Int)) := by omega
      have hfin0 := hide (repeated_no (p := p) (mn := (mn : Int)) (mx := (mn : Int)) (by rw [Int.toNat_natCast, hln.out]; exact fun h => hlm h.2))
      clear o5 B5 b4
      by_cases h0 : mn = 0
      · subst h0
        exact absurd (by have := hln.out; simpa [longest, longG] using this.symm) hlm
      · have i2 : ¬ ((mn : Int) = 0) := by omega
        have hfin : Hid (repeated p (mn : Int) (mn : Int) = .ask p.asked) := by show _ = _; rw [hfin0.out, if_neg i2]
        go_wp2_with (first | ((with_reducible refine at_load 85 ?_); refine wl_loadA 85 rfl (load85 h1g.out) ?_) | (go_at_call 36; refine (AK.out _ b5).mono ?_))
        rintro e w6 ⟨z, rfl, hq, B6⟩
        obtain ⟨xa, xm, xc, rfl⟩ := hq.slice
        have H6 := H5.call B6 (Nat.le_refl _)
        have b6 := b5.trans (B6.mono b5.size)
        have h2g6 := hide (H6.get 1 rfl)
        have hqh := hide hq
        clear hq B6 H6
        go_wp2_with (first | ((with_reducible refine at_build85 ?_); refine wl_val (run_build85_q _ p.asked.op p.asked.tx xa xm xc rfl _) ?_) | ((with_reducible refine at_store 85 ?_); refine wl_storeT 85 (v := pV false nilS p.asked.op p.asked.tx (.slice xa xm xc)) rfl rfl (store85r h2g6.out rfl rfl) ?_))
        refine bodyPost_ret (results_cell0 rfl _ _ _ _ rfl (load85 (setRow_heap _ _ _ _ 85 (0, 0) h2g6.out))) rfl ?_
        have hpv : PaV w6 (fun b => P b ∨ w5.heap.size ≤ b) (pV false nilS p.asked.op p.asked.tx (.slice xa xm xc)) (.ask p.asked) := ⟨_, rfl, hqh.out⟩
        obtain ⟨r1, r2⟩ := ret85 h2g6.out b6 q3 hpv (fun h => by
          rcases h with h | h
          · have := hPw _ h; omega
          · omega)
        refine ⟨_, rfl, ?_, r2⟩
        rw [hfin.out]
        exact r1.mono (fun b _ hb => hb.imp id (fun h => by have := b5.size; omega))
  · have hfin0 := hide (repeated_no (p := p) (mn := (mn : Int)) (mx := mx) (fun h => hmm h.1))
    go_enter Tryz.func79, Tryz.ntmps79
    by_cases h0 : mn = 0
    · subst h0
      have hfin : Hid (repeated p ((0 : Nat) : Int) mx = .ask allQ) := by show _ = _; rw [hfin0.out]; rfl
      go_wp2_with (first | ((with_reducible refine at_box 85 ?_); refine wl_box85 (b := b) (tv := tv) (o := o) (t := t) (l := lv) H rfl ?_; clear H; intro g1 w1 H q1 q2) | ((with_reducible refine at_alloc 85 ?_); refine wl_alloc85 H ?_; clear H; intro g2 w2 H q3 q4; have b5 := H.below; have h2g := hide (H.get 0 rfl); have hg2 := H.lti 0 rfl) | ((with_reducible refine at_build30 ?_); refine wl_val (run_build30_0 _ 0 rfl _) ?_) | ((with_reducible refine at_build85 ?_); refine wl_val (run_build85_q _ 0 [] none 0 0 rfl _) ?_) | ((with_reducible refine at_store 85 ?_); refine wl_storeT 85 (v := pV false nilS 0 [] nilS) rfl rfl (store85r h2g.out rfl rfl) ?_))
      refine bodyPost_ret (results_cell0 rfl _ _ _ _ rfl (load85 (setRow_heap _ _ _ _ 85 (0, 0) h2g.out))) rfl ?_
      have hpv : PaV w2 (fun b => w2.heap.size ≤ b) (pV false nilS 0 [] nilS) (.ask allQ) := ⟨nilS, rfl, nilS, [], rfl, ⟨rfl, .inl ⟨rfl, rfl⟩⟩, fun b hb => (by cases hb), rfl⟩
      obtain ⟨r1, r2⟩ := ret85 h2g.out b5 q3 hpv (fun h => by omega)
      refine ⟨_, rfl, ?_, r2⟩
      rw [hfin.out]
      exact r1.mono (fun b _ hb => .inr (by have := b5.size; omega))
    · have i2 : ¬ ((mn : Int) = 0) := by omega
      have hfin : Hid (repeated p (mn : Int) mx = .ask p.asked) := by show _ = _; rw [hfin0.out, if_neg i2]
      go_wp2_with (first | ((with_reducible refine at_box 85 ?_); refine wl_box85 (b := b) (tv := tv) (o := o) (t := t) (l := lv) H rfl ?_; clear H; intro g1 w1 H q1 q2) | ((with_reducible refine at_alloc 85 ?_); refine wl_alloc85 H ?_; clear H; intro g2 w2 H q3 q4; have b5 := H.below; have hg2 := H.lti 0 rfl) | ((with_reducible refine at_load 85 ?_); refine wl_loadA 85 rfl (load85 (H.get 1 rfl)) ?_) | (go_at_call 36; refine (AK.out _ b5).mono ?_))
      rintro e w6 ⟨z, rfl, hq, B6⟩
      obtain ⟨xa, xm, xc, rfl⟩ := hq.slice
      have H6 := H.call B6 (Nat.le_refl _)
      have b6 := b5.trans (B6.mono b5.size)
      have h2g6 := hide (H6.get 0 rfl)
      have hqh := hide hq
      clear hq B6 H6
      go_wp2_with (first | ((with_reducible refine at_build85 ?_); refine wl_val (run_build85_q _ p.asked.op p.asked.tx xa xm xc rfl _) ?_) | ((with_reducible refine at_store 85 ?_); refine wl_storeT 85 (v := pV false nilS p.asked.op p.asked.tx (.slice xa xm xc)) rfl rfl (store85r h2g6.out rfl rfl) ?_))
      refine bodyPost_ret (results_cell0 rfl _ _ _ _ rfl (load85 (setRow_heap _ _ _ _ 85 (0, 0) h2g6.out))) rfl ?_
      have hpv : PaV w6 (fun b => P b ∨ w2.heap.size ≤ b) (pV false nilS p.asked.op p.asked.tx (.slice xa xm xc)) (.ask p.asked) := ⟨_, rfl, hqh.out⟩
      obtain ⟨r1, r2⟩ := ret85 h2g6.out b6 q3 hpv (fun h => by
        rcases h with h | h
        · have := hPw _ h; omega
        · omega)
      refine ⟨_, rfl, ?_, r2⟩
      rw [hfin.out]
      exact r1.mono (fun b _ hb => hb.imp id (fun h => by have := b5.size; omega))
end Go.Proofs.YtnffbmipllhjdaaGreatDoor.G

namespace Go.Proofs.YtnffbmipllhjdaaGreatDoor.G
open Go.RowKit Go.Shelf
set_option linter.unusedVariables false
set_option linter.unusedSimpArgs false

theorem own85_of_block {w w' : World} {base n : Nat} {v : Value} {xs : List Value} (h : w.ownsRow base 85 5 v n xs) (hb : ∀ k, v.ownBlock = some k → w'.heap[k]? = w.heap[k]?) : w'.ownsRow base 85 5 v n xs := by
  refine ⟨h.1, ?_⟩
  rcases h.2 with h1 | ⟨g, cap, cur, rfl, h2, h3, h4⟩
  · exact .inl h1
  · exact .inr ⟨g, cap, cur, rfl, h2, (hb g rfl).trans h3, h4⟩
theorem own85_lt {w : World} {base n : Nat} {v : Value} {xs : List Value} (h : w.ownsRow base 85 5 v n xs) {k : Nat} (hk : v.ownBlock = some k) : base ≤ k ∧ k < w.heap.size := by
  rcases h.2 with ⟨rfl, _⟩ | ⟨g, cap, cur, rfl, h2, h3, _⟩
  · cases hk
  · cases hk; exact ⟨h2, (Array.getElem?_eq_some_iff.1 h3).1⟩
theorem own85_mono {w : World} {base base' n : Nat} {v : Value} {xs : List Value} (h : w.ownsRow base 85 5 v n xs) (hb : base' ≤ base) : w.ownsRow base' 85 5 v n xs := by
  refine ⟨h.1, ?_⟩
  rcases h.2 with h1 | ⟨g, cap, cur, rfl, h2, h3⟩
  · exact .inl h1
  · exact .inr ⟨g, cap, cur, rfl, by omega, h3⟩
theorem PaL.snoc {w : World} {P : Nat → Prop} {b : Bool} {tv : Value} {o : Int} {t : Tx} {lv : Value} {p : Pt} (h : PaV w P (pV b tv o t lv) p) : ∀ {l : List Pt} {xs : List Value}, PaL w P l xs → PaL w P (l ++ [p]) (xs ++ (pA b tv o t lv).toList)
  | [], xs, hx => by cases hx; exact ⟨b, tv, o, t, lv, [], by simp, h, rfl⟩
  | q :: r, xs, ⟨b1, tv1, o1, t1, lv1, ys, e, h1, h2⟩ => ⟨b1, tv1, o1, t1, lv1, ys ++ (pA b tv o t lv).toList, by rw [e, List.append_assoc], h1, PaL.snoc h h2⟩
/-- A row of parts of the call's own: v has the parts l. -/
def RpP (w : World) (base : Nat) (v : Value) (l : List Pt) : Prop := ∃ xs, w.ownsRow base 85 5 v l.length xs ∧ PaL w (fun b => base ≤ b ∧ v.ownBlock ≠ some b) l xs
theorem RpP.start (w : World) (base : Nat) : RpP w base (.slice none 0 0) [] := ⟨[], ⟨rfl, .inl ⟨rfl, rfl⟩⟩, rfl⟩
theorem RpP.kept {w w' : World} {base : Nat} {v : Value} {l : List Pt} (h : RpP w base v l) (hb : ∀ b, base ≤ b → b < w.heap.size → w'.heap[b]? = w.heap[b]?) : RpP w' base v l := by
  obtain ⟨xs, o, k⟩ := h
  exact ⟨xs, own85_of_block o (fun b hk => hb b (own85_lt o hk).1 (own85_lt o hk).2), k.kept (fun b hP hl => hb b hP.1 hl)⟩
theorem RpP.top {w : World} {base : Nat} {v : Value} {l : List Pt} (h : RpP w base v l) {k : Nat} (hk : v.ownBlock = some k) : k < w.heap.size := by
  obtain ⟨xs, o, _⟩ := h
  exact (own85_lt o hk).2
section
variable {S : Nat → Prop} {w0 w w' : World} {L : List Ent} {ops : Array Oper} {rest : List Oper} {a : Act} {Q : Exit → Act → World → Prop} {x y : Operand} {ty ty2 : TypeId} {pos pos2 : String} {after after2 : Array Edge}
theorem at_snocA {d1 d2 : Nat} {s x : Operand} (h : wpList Tryz.prog ops Q (⟨some d1, .buildSlice 142 1 #[(0, x)], ty, pos, after, none⟩ :: ⟨some d2, .call { callee := .builtin .append, args := #[s, .tmp d1], argTypes := #[142, 142] }, ty2, pos2, after2, none⟩ :: rest) a w) :
    wpList Tryz.prog ops Q (⟨some d1, .buildSlice 142 1 #[(0, x)], ty, pos, after, none⟩ :: ⟨some d2, .call { callee := .builtin .append, args := #[s, .tmp d1], argTypes := #[142, 142] }, ty2, pos2, after2, none⟩ :: rest) a w := h
/-- A part is appended to a row of one's own. -/
theorem wl_snocA {d1 d2 : Nat} {s : Operand} (H : St S w0 w L) {base m : Nat} {v z : Value} {l : List Pt} {p : Pt} (R : RpP w base v l) (T : PaV w (fun b => m ≤ b) z p) (hs : ∀ u, (a.put (some d1) u).eval s = v) (ht : ∀ u, (a.put (some d1) u).eval (.tmp d1) = u) (hx : a.eval x = z)
    (hm : ∀ k, v.ownBlock = some k → k < m) (hbm : base ≤ m) (hmw : m ≤ w.heap.size) (hf : l.length ≤ 1000000) (hL : ∀ e ∈ L, v.ownBlock ≠ some e.2.1) (h0 : w0.heap.size ≤ base)
    (k : ∀ u v2 w2, St S w0 w2 L → RpP w2 base v2 (l ++ [p]) → w.heap.size ≤ w2.heap.size → (∀ k, v2.ownBlock = some k → v.ownBlock = some k ∨ w.heap.size ≤ k) → wpList Tryz.prog ops Q rest ((a.put (some d1) u).put (some d2) v2) w2) :
    wpList Tryz.prog ops Q (⟨some d1, .buildSlice 142 1 #[(0, x)], ty, pos, after, none⟩ :: ⟨some d2, .call { callee := .builtin .append, args := #[s, .tmp d1], argTypes := #[142, 142] }, ty2, pos2, after2, none⟩ :: rest) a w := by
  obtain ⟨i0, hi, hz0, hz1, hz2⟩ := infoP5
  obtain ⟨b, tv, o, t, lv, rfl, hto, hlo⟩ := T.form
  obtain ⟨xs, ro, rk⟩ := R
  refine wpList_plain rfl fun K hK => ?_
  unfold Oper.wp execOp
  simp only [List.map_toArray, List.map_cons, List.map_nil, hx, Sem.run_bind, run_bs142, Result.andThen_ok, Sem.run_pure]
  refine hK _ _ ?_
  have hA1 := pA_one (b := b) (o := o) (t := t) hto hlo
  generalize hA : pA b tv o t lv = A at *
  have hAl : A.toList.length = 5 := by rw [← hA]; rfl
  have hold : ∀ b, b < w.heap.size → (w.alloc (.cells A 85)).heap[b]? = w.heap[b]? := fun b hb => Below.heap_alloc _ _ _ hb
  refine wpList_append_lies (P := Tryz.prog) (w := w.alloc (.cells A 85)) rfl s (.tmp d1) 142 rfl base 85 i0 (pV false nilS 0 [] nilS) 5 80 Tryz.underlying142 hi hz0 hz1 hz2 rfl (by decide) v l.length xs (hs _) (own85_of_block ro (fun b hb => hold b (own85_lt ro hb).2)) ⟨w.heap.size, 0, none⟩ 1 1 A.toList (ht _) (by omega) ?_ (fun u hu => Array.all_eq_true'.1 hA1 u (by simpa using hu)) (by omega) (by unfold maxLen; omega) (by omega) (by simp; omega) (w.heap.size + 1) (by simp) ?_
  · intro j v' hj
    rw [add_plain, Nat.zero_add, cell_of_row _ _ _ _ _ _ (heap_alloc_new w _)]
    simpa using hj
  · intro g cap w2 hown hg hat hlt
    have H1 := (H.alloc 85 A).tail
    have hsz : w.heap.size ≤ w2.heap.size := by have := hg.size; simp at this; omega
    refine k _ _ w2 (H1.grown hg (fun j hj => ⟨fun e he => ?_, fun hl => ?_⟩)) ⟨xs ++ A.toList, by rw [List.length_append]; exact hown, ?_⟩ hsz (fun k hk => ?_)
    · intro e2
      exact hL e he (by rw [hj, e2])
    · have := own85_lt ro hj
      omega
    · have keep : ∀ b, b < w.heap.size → v.ownBlock ≠ some b → w2.heap[b]? = w.heap[b]? := fun b hb hn => by
        rw [hg.block b (by simp; omega) (fun e => hn e.symm), hold b hb]
      have ne : ∀ b, b < w.heap.size → v.ownBlock ≠ some b → (Value.slice (some ⟨g, 0, none⟩) (l.length + 1) cap).ownBlock ≠ some b := fun b hb hn e => by
        have e2 : g = b := by simpa [Value.ownBlock] using e
        rcases hat with h | h
        · exact hn (by rw [h, e2])
        · omega
      have far : ∀ b, m ≤ b → v.ownBlock ≠ some b := fun b hb e => by
        have := hm b e
        omega
      have step : ∀ {ff : List Pt} {ys : List Value}, PaL w (fun b => base ≤ b ∧ v.ownBlock ≠ some b) ff ys → PaL w2 (fun b => base ≤ b ∧ (Value.slice (some ⟨g, 0, none⟩) (l.length + 1) cap).ownBlock ≠ some b) ff ys := fun hk =>
        ((hk.mono (P' := fun b => (base ≤ b ∧ (Value.slice (some ⟨g, 0, none⟩) (l.length + 1) cap).ownBlock ≠ some b) ∧ v.ownBlock ≠ some b) (fun b hb hp => ⟨⟨hp.1, ne b hb hp.2⟩, hp.2⟩)).kept (w' := w2) (fun b hp hl => keep b hl hp.2)).mono (fun b _ hp => hp.1)
      have T2 := ((T.mono (P' := fun b => (base ≤ b ∧ (Value.slice (some ⟨g, 0, none⟩) (l.length + 1) cap).ownBlock ≠ some b) ∧ v.ownBlock ≠ some b) (fun b hb hp => ⟨⟨by omega, ne b hb (far b hp)⟩, far b hp⟩)).kept (w' := w2) (fun b hp hl => keep b hl hp.2)).mono (P' := fun b => base ≤ b ∧ (Value.slice (some ⟨g, 0, none⟩) (l.length + 1) cap).ownBlock ≠ some b) (fun b _ hp => hp.1)
      rw [← hA]
      exact PaL.snoc T2 (step rk)
    · have e2 : g = k := by simpa [Value.ownBlock] using hk
      rcases hat with h | h
      · exact .inl (by rw [h, e2])
      · exact .inr (by omega)
end
end Go.Proofs.YtnffbmipllhjdaaGreatDoor.G

namespace Go.Proofs.YtnffbmipllhjdaaGreatDoor.G
open Go.RowKit Go.Shelf
set_option linter.unusedVariables false
set_option linter.unusedSimpArgs false
attribute [local go_sem] Oper.semAt_some

set_option maxHeartbeats 8000000 in
set_option maxRecDepth 100000 in
/-- The parts of a row from a place on. -/
theorem longest_off (l : List Pt) (hB : ∀ p ∈ l, PtB p) (P : Nat → Prop) (g off vc : Nat) (w : World) (hch : ∀ k p, l[k]? = some p → ∃ b tv o t lv, tv.oneCell' = true ∧ lv.oneCell' = true ∧ PaV w P (pV b tv o t lv) p ∧ ∀ w', Below w.heap.size w w' → (loadVar 85 ⟨g, off + k * 5, none⟩).run Tryz.prog w' = .ok (pV b tv o t lv) w') (hP : ∀ b, P b → b < w.heap.size) (hlen : l.length ≤ 1000000) :
    Calls Tryz.prog 130 #[.slice (some ⟨g, off, none⟩) l.length vc] w fun e w' => ∃ tv, e = .returned (.tuple #[tv, .int .i64 ((longest l).2 : Int)]) ∧ w'.ownsRow w.heap.size 9 1 tv (longest l).1.length ((longest l).1.map encStr) ∧ Below w.heap.size w w' := by
  have child := hide hch
  replace hB := hide hB
  replace hP := hide hP
  clear hch
  go_enter Tryz.func130, Tryz.ntmps130
  go_wp2_with (first | ((with_reducible refine at_bs43 ?_); refine wl_bs43e rfl ?_; intro w1 B1 o1))
  have B1h := hide B1
  have o1h := hide o1
  clear B1 o1
  go_loopw [4, 12] (fun tv iv wr => ∃ (k : Nat) (ts : List Tx), k ≤ l.length ∧ iv = .int .i64 (k : Int) ∧ Hid (Bd ts) ∧ Hid (wr.ownsRow w.heap.size 9 1 tv ts.length (ts.map encStr)) ∧ Hid (Below w.heap.size w wr) ∧ Hid (longest l = ((longG ts (l.drop k)).1, (longG ts (l.drop k)).2 + k))) (fun _ iv _ => l.length - (intOf iv).toNat)
  case atStart => exact ⟨0, [[]], Nat.zero_le _, rfl, bd_one, o1h.out, B1h.out, rfl⟩
  case round =>
    obtain ⟨k, ts, hk, rfl, hbd, ho, hb, hlg⟩ := hrel
    by_cases hlt : k < l.length
    · have i3 : (k : Int) < (l.length : Int) := by omega
      obtain ⟨p, hp⟩ : ∃ p, l[k]? = some p := ⟨_, List.getElem?_eq_getElem hlt⟩
      obtain ⟨b, tv, o, t, lv, hto, hlo, hpv, hld⟩ := child.out k p hp
      have hpB := hB.out p (List.mem_of_getElem? hp)
      have hdr := drop_at hp
      have hl1 := hide (hld wr hb.out)
      obtain ⟨ta, tc, hta⟩ := row_slice ho.out
      have H := St.start Nope wr
      replace hp := hide hp
      clear hld
      cases p with
      | ask q =>
        obtain ⟨lv', e, hq⟩ := hpv
        have hb0 : b = false := by
          have := congrArg (fun v => match v with | .agg a => a[0]? | _ => none) e
          simpa [pV, pA] using this
        subst hb0
        have hfin : Hid (longest l = (ts, k)) := by show _ = _; rw [hlg.out, hdr, longG_ask]; simp
        clear e hq hpB hdr
        go_wp2_with (first | ((with_reducible refine at_load 85 ?_); refine wl_loadA 85 rfl hl1.out ?_) | ((with_reducible refine at_alloc 85 ?_); refine wl_alloc85 H ?_; clear H; intro g6 w6 H q1 q2) | ((with_reducible refine at_store 85 ?_); refine wl_store85 0 (b' := false) (tv' := tv) (o' := o) (t' := t) (l' := lv) H rfl rfl rfl hto hlo ?_; clear H; intro w7 H) | ((with_reducible refine at_load 4 ?_); refine wl_ld4 0 0 H (v := .bool false) rfl rfl rfl ?_))
        have hbH := hide H.below
        have ho7 := hide (ownsT_of_block ho.out (fun k hk => hbH.out.block k (ownT1_lt ho.out hk).2))
        have hb7 := hide (hb.out.trans (hbH.out.mono hb.out.size))
        subst hta
        go_ret2
        refine ⟨_, (by rw [hfin.out]; rfl), ?_, hb7.out⟩
        rw [hfin.out]
        exact ho7.out
      | told ps =>
        obtain ⟨tv', e, hpo, hpp⟩ := hpv
        have hbt : b = true ∧ tv = tv' := by
          have h1 := congrArg (fun v => match v with | .agg a => a[0]? | _ => none) e
          have h2 := congrArg (fun v => match v with | .agg a => a[1]? | _ => none) e
          simp [pV, pA] at h1 h2
          exact ⟨h1, h2⟩
        obtain ⟨rfl, rfl⟩ := hbt
        obtain ⟨pa, pc, hpa⟩ := row_slice hpo
        have hBp := hide (hpB ps rfl)
        have hdrH := hide hdr
        have hpoW := hide (ownsT_of_block (w' := wr) hpo (fun k hk => hb.out.block k (ownT1_lt hpo hk).2))
        clear e hpp hpB hdr hpo
        subst hta hpa
        go_wp2_with (first | ((with_reducible refine at_load 85 ?_); refine wl_loadA 85 rfl hl1.out ?_) | ((with_reducible refine at_alloc 85 ?_); refine wl_alloc85 H ?_; clear H; intro g6 w6 H q1 q2) | ((with_reducible refine at_store 85 ?_); refine wl_store85 0 (b' := true) (tv' := .slice pa ps.length pc) (o' := o) (t' := t) (l' := lv) H rfl rfl rfl rfl hlo ?_; clear H; intro w7 H) | ((with_reducible refine at_load 4 ?_); refine wl_ld4 0 0 H (v := .bool true) rfl rfl rfl ?_) | ((with_reducible refine at_load 43 ?_); refine wl_ld43 0 1 H (v := .slice pa ps.length pc) rfl rfl rfl ?_) | (go_at_call 183; refine (callsIn_wide.1 (joined_in 1 _ _ _ _ _ _ w7)).mono ?_))
        rintro e w9 ⟨rfl, e9⟩
        have hb7 := H.below
        have B9 : Below w7.heap.size w7 w9 := by rw [e9]; exact ((Below.refl _ w7).alloc (Nat.le_refl _) _).alloc (by simp) _
        have hBa : w9.heap[w7.heap.size]? = some (.cells #[.slice ta ts.length tc] 43 (0, 0)) := by rw [e9]; exact (Below.heap_alloc _ _ _ (by simp)).trans (heap_alloc_new w7 _)
        have hBb : w9.heap[w7.heap.size + 1]? = some (.cells #[.slice pa ps.length pc] 43 (0, 0)) := by
          rw [e9]
          have := heap_alloc_new (w7.alloc (.cells #[.slice ta ts.length tc] 43)) (.cells #[.slice pa ps.length pc] 43)
          simpa using this
        have b9 : Below wr.heap.size wr w9 := hb7.trans (B9.mono hb7.size)
        have ot := ownsT_of_block (w' := w9) ho.out (fun k hk => b9.block k (ownT1_lt ho.out hk).2)
        have op := ownsT_of_block (w' := w9) hpoW.out (fun k hk => b9.block k (ownT1_lt hpoW.out hk).2)
        have BJ := hide (bounded_joined ts ps ta pa tc pc w7.heap.size (w7.heap.size + 1) w9 (ownsT_mono ot (Nat.zero_le _)) op hbd.out.1 hBp.out.1 hbd.out.2.1 hBp.out.2.1 hBa hBb)
        have otH := hide ot
        have b09 := hide (hb.out.trans (b9.mono hb.out.size))
        clear e9 H hb7 B9 hBa hBb ot op b9
        go_wp2_with (go_at_call 182; refine BJ.out.mono ?_)
        intro e w10 hR
        obtain ⟨v10, b10, rfl, B10, hcase⟩ := hR
        have b010 := hide (b09.out.trans (B10.mono b09.out.size))
        rcases hcase with ⟨hn, rfl, rfl⟩ | ⟨m, hm, rfl, om⟩
        · have hfin : Hid (longest l = (ts, k)) := by show _ = _; rw [hlg.out, hdrH.out, longG_none hn]; simp
          have ot10 := hide (ownsT_of_block (w' := w10) otH.out (fun k hk => B10.block k (ownT1_lt otH.out hk).2))
          clear hn B10
          go_wp2
          go_ret2
          refine ⟨_, (by rw [hfin.out]; rfl), ?_, b010.out⟩
          rw [hfin.out]
          exact ot10.out
        · have hlg2 : Hid (longest l = ((longG m (l.drop (k + 1))).1, (longG m (l.drop (k + 1))).2 + (k + 1))) := by
            show _ = _
            rw [hlg.out, hdrH.out, longG_some hm]
            simp only [Prod.mk.injEq, true_and]
            omega
          have hbdm := hide (bnd_bd hm)
          have om2 := hide (ownsT_mono om (base' := w.heap.size) (by have := b09.out.size; omega))
          clear hm B10 om
          go_wp2
          go_roundw
          case rel => exact ⟨k + 1, m, by omega, by simp, hbdm, om2, b010, hlg2⟩
          case measure => simp [intOf]; omega
    · obtain rfl : k = l.length := by omega
      have i4 : ¬ ((l.length : Int) < (l.length : Int)) := by omega
      have hfin : Hid (longest l = (ts, l.length)) := by show _ = _; rw [hlg.out, List.drop_length]; simp [longG]
      go_wp2
      go_ret2
      refine ⟨_, (by rw [hfin.out]; rfl), ?_, hb.out⟩
      rw [hfin.out]
      exact ho.out
end Go.Proofs.YtnffbmipllhjdaaGreatDoor.G

namespace Go.Proofs.YtnffbmipllhjdaaGreatDoor.G
open Go.RowKit Go.Shelf
set_option linter.unusedVariables false
set_option linter.unusedSimpArgs false
attribute [local go_sem] Oper.semAt_some

section
variable {S : Nat → Prop} {w0 w w' : World} {L : List Ent} {ops : Array Oper} {o : Oper} {a : Act} {Q : Exit → Act → World → Prop} {K : Act → World → Prop} {E : Prop} {dst : Option Nat} {x y : Operand} {ty : TypeId} {pos : String} {after : Array Edge} {gd : Option (Nat × Bool)}
theorem step_val2 {v : Value} (hgd : Region.wanted o (yielded ops a.tmps) = true) (hr : (execOp a.eval o).run Tryz.prog w = .ok (.value v) w') (h : K (a.put o.dst v) w') : if Region.wanted o (yielded ops a.tmps) = true then Oper.wp Tryz.prog o a w K Q else E := by
  rw [if_pos hgd]
  unfold Oper.wp
  rw [hr, Oper.upon_value]
  exact h
theorem run_slP (ev : Operand → Value) {u v r : Value} (hx : ev x = u) (hy : ev y = v) (hr : (Instr.sliceAt 142 u (some v) none none).run Tryz.prog w = .ok r w) : (execOp ev ⟨dst, .slice 142 x (some y) none none, ty, pos, after, gd⟩).run Tryz.prog w = .ok (.value r) w := by
  unfold execOp
  simp only [hx, hy, Option.map_some, Option.map_none, Sem.run_bind, hr, Result.andThen_ok, Sem.run_pure]
theorem run_ldx30 (ev : Operand → Value) {ad : Addr} {v : Value} (hx : ev x = .pointer (some ad)) (hl : (loadVar 30 ad).run Tryz.prog w = .ok v w) : (execOp ev ⟨dst, .load 30 x, ty, pos, after, none⟩).run Tryz.prog w = .ok (.value v) w := by
  unfold execOp
  simp only [hx, Instr.loadAt, Instr.sureAddr, Sem.run_bind, Sem.run_pure, Result.andThen_ok, hl]
theorem bs28q {ev : Operand → Value} {o : Int} {t : Tx} {v : Value} (hx : ev x = qV o t v) (w : World) : (execOp ev ⟨dst, .buildSlice 28 1 #[(0, x)], ty, pos, after, none⟩).run Tryz.prog w = .ok (.value (.slice (some ⟨w.heap.size, 0, none⟩) 1 1)) (w.alloc (.cells (qA o t v) 30)) := by
  unfold execOp
  simp only [List.map_toArray, List.map_cons, List.map_nil, hx, Sem.run_bind, run_bs28, Result.andThen_ok, Sem.run_pure]
/-- The cells of a query's value. -/
def qCells : Value → Array Value
  | .agg a => a
  | _ => #[]
theorem bs28z' {P : Nat → Prop} {W : World} {ev : Operand → Value} {z : Value} {t : Qy} (T : QyV W P z t) (hx : ev x = z) (w : World) : (execOp ev ⟨dst, .buildSlice 28 1 #[(0, x)], ty, pos, after, none⟩).run Tryz.prog w = .ok (.value (.slice (some ⟨w.heap.size, 0, none⟩) 1 1)) (w.alloc (.cells (qCells z) 30)) := by
  obtain ⟨v, zs, e, _⟩ := T
  subst e
  exact bs28q hx w
/-- A query, laid down behind all, is appended to a row of one's own. -/
theorem step_snocP {base m : Nat} {P : Nat → Prop} (H : St S w0 w L) (hPb : ∀ b, P b → b < base) {v z : Value} {f : Qf} {t : Qy} (R : RqP w base P v f) (T : QyV w (fun b => P b ∨ m ≤ b) z t) (s x : Operand) (hgd : o.guard = none) (ho : o.op = .call { callee := .builtin .append, args := #[s, x], argTypes := #[28, 28] }) (hs : a.eval s = v) (hx : a.eval x = .slice (some ⟨w.heap.size, 0, none⟩) 1 1)
    (hm : ∀ k, v.ownBlock = some k → k < m) (hbm : base ≤ m) (hmw : m ≤ w.heap.size) (hf : f.len ≤ 1000000) (hL : ∀ e ∈ L, e.2.1 < base) (h0 : w0.heap.size ≤ base)
    (k : ∀ v2 w2, St S w0 w2 L → RqP w2 base P v2 (f.snoc t) → w.heap.size ≤ w2.heap.size → K (a.put o.dst v2) w2) :
    if Region.wanted o (yielded ops a.tmps) = true then Oper.wp Tryz.prog o a (w.alloc (.cells (qCells z) 30)) K Q else E := by
  obtain ⟨i0, hi, hz0, hz1, hz2⟩ := info30'
  obtain ⟨u, zs, rfl, ow, p, kd⟩ := T
  obtain ⟨xs, ro, rk⟩ := R
  obtain ⟨ua, uc, hu, _, _⟩ := owns3_val ow
  have hu1 : u.oneCell' = true := by rw [hu]; rfl
  show if _ then Oper.wp Tryz.prog _ a (w.alloc (.cells (qA t.op t.tx u) 30)) K Q else E
  generalize hA : qA t.op t.tx u = A at *
  have hAl : A.toList.length = 3 := by rw [← hA]; rfl
  have hold : ∀ b, b < w.heap.size → (w.alloc (.cells A 30)).heap[b]? = w.heap[b]? := fun b hb => Below.heap_alloc _ _ _ hb
  refine step_append_lies (P := Tryz.prog) (w := w.alloc (.cells A 30)) hgd s x 28 ho base 30 i0 (qV 0 [] (.slice none 0 0)) 3 48 Tryz.underlying28 hi hz0 hz1 hz2 rfl (by decide) v f.len xs hs (owns3_of_block ro (fun b hb => hold b (owns3_lt ro hb).2)) ⟨w.heap.size, 0, none⟩ 1 1 A.toList hx (by omega) ?_ (by rw [← hA]; exact fun u hu => Array.all_eq_true'.1 (qA_one hu1) u (by simpa using hu)) (by omega) (by unfold maxLen; omega) (by omega) (by simp; omega) (w.heap.size + 1) (by simp) ?_
  · intro j v' hj
    rw [add_plain, Nat.zero_add, cell_of_row _ _ _ _ _ _ (heap_alloc_new w _)]
    simpa using hj
  · intro g cap w2 hown hg hat hlt
    have H1 := (H.alloc 30 A).tail
    have hsz : w.heap.size ≤ w2.heap.size := by have := hg.size; simp at this; omega
    refine k _ w2 (H1.grown hg (fun j hj => ⟨fun e he => ?_, fun hl => ?_⟩)) ⟨xs ++ A.toList, by rw [Qf.len_snoc]; exact hown, ?_⟩ hsz
    · have := hL e he
      have := owns3_lt ro hj
      omega
    · have := owns3_lt ro hj
      omega
    · have keep : ∀ b, b < w.heap.size → v.ownBlock ≠ some b → w2.heap[b]? = w.heap[b]? := fun b hb hn => by
        rw [hg.block b (by simp; omega) (fun e => hn e.symm), hold b hb]
      have ne : ∀ b, b < w.heap.size → v.ownBlock ≠ some b → (Value.slice (some ⟨g, 0, none⟩) (f.len + 1) cap).ownBlock ≠ some b := fun b hb hn e => by
        have e2 : g = b := by simpa [Value.ownBlock] using e
        rcases hat with h | h
        · exact hn (by rw [h, e2])
        · omega
      have far : ∀ b, (P b ∨ m ≤ b) → v.ownBlock ≠ some b := fun b hb e => by
        have h1 := (owns3_lt ro e).1
        have h2 := hm b e
        rcases hb with h | h
        · have := hPb b h; omega
        · omega
      have step : ∀ {ff : Qf} {ys : List Value} {PP : Nat → Prop}, Kq w PP ff ys → (∀ b, PP b → (P b ∨ base ≤ b) ∧ v.ownBlock ≠ some b) → Kq w2 (fun b => (P b ∨ base ≤ b) ∧ (Value.slice (some ⟨g, 0, none⟩) (f.len + 1) cap).ownBlock ≠ some b) ff ys := fun hk hP =>
        ((hk.mono (P' := fun b => ((P b ∨ base ≤ b) ∧ (Value.slice (some ⟨g, 0, none⟩) (f.len + 1) cap).ownBlock ≠ some b) ∧ v.ownBlock ≠ some b) (fun b hb hp => ⟨⟨(hP b hp).1, ne b hb (hP b hp).2⟩, (hP b hp).2⟩)).kept (w' := w2) (fun b hp hl => keep b hl hp.2)).mono (fun b _ hp => hp.1)
      have o2 := owns3_of_block (w' := w2) ow (fun b hb => keep b (owns3_lt ow hb).2 (far b (p b hb)))
      rw [← hA]
      refine Kq.snoc o2 (fun b hb => ⟨(p b hb).imp id (fun h => by omega), ne b (owns3_lt ow hb).2 (far b (p b hb))⟩) (step kd (fun b hb => ⟨hb.imp id (fun h => by omega), far b hb⟩)) (step rk (fun b hb => hb))
end
set_option maxHeartbeats 4000000 in
set_option maxRecDepth 100000 in
theorem reg77_8 (L : List Ent) (w0 : World) (w : World) (base : Nat) (P : Nat → Prop) (hPb : ∀ b, P b → b < base) (lv : Value) (f : Qf) (t : Qy) (g off m c : Nat) (H0 : St Nope w0 w L) (R0 : RqP w base P lv f) (hf : f.len ≤ 1000000) (hL : ∀ e ∈ L, e.2.1 < base) (h0 : w0.heap.size ≤ base) (hbw : base ≤ w.heap.size) (hm : 1 ≤ m) (sv : Value) (qv : Value) (T0 : QyV w (fun b => P b) (qV t.op t.tx qv) t) (hld : (loadVar 30 ⟨g, off + 2, none⟩).run Tryz.prog w.drew = .ok (qV t.op t.tx qv) w.drew) (hsl : ∀ W, (Instr.sliceAt 142 (.slice (some ⟨g, off, none⟩) m c) (some (.int .i64 1)) none none).run Tryz.prog W = .ok sv W)
    (u1 u2 u3 u4 u6 u7 u8 u9 u10 u11 u12 u13 u14 u15 u16 u17 u18 u19 u20 u21 u22 u23 u24 u25 u26 u27 u28 u29 u30 u31 u32 u33 u34 u35 u36 u37 u38 u39 u40 u41 u42 u43 u44 u45 u46 u47 u48 : Value) (Q : Exit → Act → World → Prop)
    (h : ∀ (X31 X32 X34 v2 : Value) (w2 : World), St Nope w0 w2 L → RqP w2 base P v2 (f.snoc t) → w.heap.size ≤ w2.heap.size → Q .normal { tmps := (List.toArray ((sv :: u1 :: u2 :: u3 :: u4 :: v2 :: u6 :: u7 :: u8 :: u9 :: u10 :: u11 :: u12 :: u13 :: u14 :: u15 :: u16 :: u17 :: u18 :: u19 :: u20 :: u21 :: u22 :: u23 :: u24 :: u25 :: u26 :: u27 :: u28 :: lv :: .slice (some ⟨g, off, none⟩) m c :: X31 :: X32 :: qV t.op t.tx qv :: X34 :: v2 :: .slice (some ⟨g, off, none⟩) m c :: sv :: u38 :: u39 :: u40 :: u41 :: u42 :: u43 :: u44 :: u45 :: u46 :: u47 :: u48 :: []) : List Value)), defers := [] } w2) :
    (Code.region 8 #[{ dst := some 29, op := Op.move (Operand.tmp 5), type := 28, pos := "part.go:93", after := #[], guard := none }, { dst := some 30, op := Op.move (Operand.tmp 0), type := 142, pos := "part.go:93", after := #[], guard := none }, { dst := some 31, op := Op.indexAddr 142 (Operand.tmp 30) (Operand.const (Value.int IntKind.i64 0)), type := 0, pos := "part.go:93", after := #[{ on := 1, ground := Ground.data }], guard := none }, { dst := some 32, op := Op.fieldAddr 85 (Operand.tmp 31) 2, type := 0, pos := "part.go:93", after := #[{ on := 2, ground := Ground.data }], guard := none }, { dst := some 33, op := Op.load 30 (Operand.tmp 32), type := 30, pos := "part.go:93", after := #[{ on := 3, ground := Ground.data }], guard := none }, { dst := some 34, op := Op.buildSlice 28 1 #[(0, Operand.tmp 33)], type := 28, pos := "part.go:93", after := #[{ on := 4, ground := Ground.data }], guard := none }, { dst := some 35, op := Op.call { callee := Callee.builtin Builtin.append, args := #[Operand.tmp 29, Operand.tmp 34], argTypes := #[28, 28] }, type := 28, pos := "part.go:93", after := #[{ on := 0, ground := Ground.data }, { on := 5, ground := Ground.data }], guard := none }, { dst := some 36, op := Op.move (Operand.tmp 0), type := 142, pos := "part.go:93", after := #[], guard := none }, { dst := some 37, op := Op.slice 142 (Operand.tmp 36) (some (Operand.const (Value.int IntKind.i64 1))) none none, type := 142, pos := "part.go:93", after := #[{ on := 7, ground := Ground.data }], guard := none }, { dst := some 5, op := Op.assign (Operand.tmp 35), type := 28, pos := "part.go:93", after := #[{ on := 6, ground := Ground.data }, { on := 6, ground := Ground.chain }, { on := 0, ground := Ground.phase }, { on := 1, ground := Ground.phase }, { on := 2, ground := Ground.phase }, { on := 3, ground := Ground.phase }, { on := 4, ground := Ground.phase }, { on := 5, ground := Ground.phase }, { on := 6, ground := Ground.phase }, { on := 7, ground := Ground.textOnly Departure.lateStores }, { on := 8, ground := Ground.textOnly Departure.lateStoresUnsure }], guard := none }, { dst := some 0, op := Op.assign (Operand.tmp 37), type := 142, pos := "part.go:93", after := #[{ on := 8, ground := Ground.data }, { on := 9, ground := Ground.chain }, { on := 0, ground := Ground.phase }, { on := 1, ground := Ground.phase }, { on := 2, ground := Ground.phase }, { on := 3, ground := Ground.phase }, { on := 4, ground := Ground.phase }, { on := 5, ground := Ground.phase }, { on := 6, ground := Ground.phase }, { on := 7, ground := Ground.phase }, { on := 8, ground := Ground.phase }, { on := 9, ground := Ground.phase }], guard := none }] true).wp Tryz.prog Q { tmps := (List.toArray ((.slice (some ⟨g, off, none⟩) m c :: u1 :: u2 :: u3 :: u4 :: lv :: u6 :: u7 :: u8 :: u9 :: u10 :: u11 :: u12 :: u13 :: u14 :: u15 :: u16 :: u17 :: u18 :: u19 :: u20 :: u21 :: u22 :: u23 :: u24 :: u25 :: u26 :: u27 :: u28 :: u29 :: u30 :: u31 :: u32 :: u33 :: u34 :: u35 :: u36 :: u37 :: u38 :: u39 :: u40 :: u41 :: u42 :: u43 :: u44 :: u45 :: u46 :: u47 :: u48 :: []) : List Value)), defers := [] } w := by
  have i1 : (1 : Int) ≤ (m : Int) := by omega
  have i3 : 0 < m := by omega
  have i2 : (0 : Int) < (m : Int) := by omega
  have H := H0.drew
  have R := R0.kept (w' := w.drew) (fun b _ _ => rfl)
  have ltv : ∀ k, lv.ownBlock = some k → k < w.drew.heap.size := fun k hk => R0.top k hk
  replace hsl := hide hsl
  replace hld := hide hld
  clear H0 R0
  have T : QyV w.drew (fun b => P b ∨ w.drew.heap.size ≤ b) (qV t.op t.tx qv) t := QyV.mono (QyV.kept (w' := w.drew) T0 (fun b _ _ => rfl)) (fun b _ hb => Or.inl hb)
  clear T0
  replace h := hide h
  refine wp_region_noPanic ?_
  refine wp_region_any (by kernel_rfl) ?_
  change wpAny _ _ _ _ _ _ _ (World.drew w)
  refine wpAny_take (i := 0) (oi := { dst := some 29, op := Op.move (Operand.tmp 5), type := 28, pos := "part.go:93", after := #[], guard := none }) (v := ?_) rfl (by kernel_rfl) (by kernel_rfl) (by kernel_rfl) (fun _ _ _ h => h) (Or.inl ⟨by rfl, ?_⟩) ?_
  rotate_left
  · intro w'
    go_simp
    try with_reducible rfl
  try simp only [Act.put, List.setIfInBounds_toArray, List.set_cons_zero, List.set_cons_succ]
  refine wpAny_take (i := 1) (oi := { dst := some 30, op := Op.move (Operand.tmp 0), type := 142, pos := "part.go:93", after := #[], guard := none }) (v := ?_) rfl (by kernel_rfl) (by kernel_rfl) (by kernel_rfl) (fun _ _ _ h => h) (Or.inl ⟨by rfl, ?_⟩) ?_
  rotate_left
  · intro w'
    go_simp
    try with_reducible rfl
  try simp only [Act.put, List.setIfInBounds_toArray, List.set_cons_zero, List.set_cons_succ]
  refine wpAny_take (i := 2) (oi := { dst := some 31, op := Op.indexAddr 142 (Operand.tmp 30) (Operand.const (Value.int IntKind.i64 0)), type := 0, pos := "part.go:93", after := #[{ on := 1, ground := Ground.data }], guard := none }) (v := ?_) rfl (by kernel_rfl) (by kernel_rfl) (by kernel_rfl) (fun _ _ _ h => h) (Or.inl ⟨by rfl, ?_⟩) ?_
  rotate_left
  · intro w'
    go_simp
    try with_reducible rfl
  try simp only [Act.put, List.setIfInBounds_toArray, List.set_cons_zero, List.set_cons_succ]
  refine wpAny_take (i := 3) (oi := { dst := some 32, op := Op.fieldAddr 85 (Operand.tmp 31) 2, type := 0, pos := "part.go:93", after := #[{ on := 2, ground := Ground.data }], guard := none }) (v := ?_) rfl (by kernel_rfl) (by kernel_rfl) (by kernel_rfl) (fun _ _ _ h => h) (Or.inl ⟨by rfl, ?_⟩) ?_
  rotate_left
  · intro w'
    go_simp
    try with_reducible rfl
  try simp only [Act.put, List.setIfInBounds_toArray, List.set_cons_zero, List.set_cons_succ]
  refine wpAny_take (i := 7) (oi := { dst := some 36, op := Op.move (Operand.tmp 0), type := 142, pos := "part.go:93", after := #[], guard := none }) (v := ?_) rfl (by kernel_rfl) (by kernel_rfl) (by kernel_rfl) (fun _ _ _ h => h) (Or.inl ⟨by rfl, ?_⟩) ?_
  rotate_left
  · intro w'
    go_simp
    try with_reducible rfl
  try simp only [Act.put, List.setIfInBounds_toArray, List.set_cons_zero, List.set_cons_succ]
  refine wpAny_take (i := 8) (oi := { dst := some 37, op := Op.slice 142 (Operand.tmp 36) (some (Operand.const (Value.int IntKind.i64 1))) none none, type := 142, pos := "part.go:93", after := #[{ on := 7, ground := Ground.data }], guard := none }) (v := sv) rfl (by kernel_rfl) (by kernel_rfl) (by kernel_rfl) (fun _ _ _ h => h) (Or.inl ⟨by rfl, ?_⟩) ?_
  · intro w'
    exact run_slP _ rfl rfl (hsl.out _)
  try simp only [Act.put, List.setIfInBounds_toArray, List.set_cons_zero, List.set_cons_succ]
  refine wpAny_ready (rs := [4]) (by kernel_rfl) (by simp) ?_
  refine (AllReady.cons (o := { dst := some 33, op := Op.load 30 (Operand.tmp 32), type := 30, pos := "part.go:93", after := #[{ on := 3, ground := Ground.data }], guard := none }) rfl (fun K4 hK4 => ?_) AllReady.nil)
  refine step_val2 (by rfl) (run_ldx30 _ rfl hld.out) ?_
  refine hK4 _ _ ?_
  clear hK4 K4
  try simp only [Act.put, List.setIfInBounds_toArray, List.set_cons_zero, List.set_cons_succ]
  refine wpAny_ready (rs := [5]) (by kernel_rfl) (by simp) ?_
  refine (AllReady.cons (o := { dst := some 34, op := Op.buildSlice 28 1 #[(0, Operand.tmp 33)], type := 28, pos := "part.go:93", after := #[{ on := 4, ground := Ground.data }], guard := none }) rfl (fun K5 hK5 => ?_) AllReady.nil)
  refine step_val2 (by rfl) (bs28q rfl _) ?_
  refine hK5 _ _ ?_
  clear hK5 K5
  try simp only [Act.put, List.setIfInBounds_toArray, List.set_cons_zero, List.set_cons_succ]
  refine wpAny_ready (rs := [6]) (by kernel_rfl) (by simp) ?_
  refine (AllReady.cons (o := { dst := some 35, op := Op.call { callee := Callee.builtin Builtin.append, args := #[Operand.tmp 29, Operand.tmp 34], argTypes := #[28, 28] }, type := 28, pos := "part.go:93", after := #[{ on := 0, ground := Ground.data }, { on := 5, ground := Ground.data }], guard := none }) rfl (fun K6 hK6 => ?_) AllReady.nil)
  refine step_snocP H hPb R T (.tmp 29) (.tmp 34) rfl rfl rfl rfl ltv hbw (Nat.le_refl _) hf hL h0 (fun v2 w2 H2 R2 z2 => ?_)
  refine hK6 _ _ ?_
  clear H R T
  clear hK6 K6
  try simp only [Act.put, List.setIfInBounds_toArray, List.set_cons_zero, List.set_cons_succ]
  refine wpAny_take (i := 9) (oi := { dst := some 5, op := Op.assign (Operand.tmp 35), type := 28, pos := "part.go:93", after := #[{ on := 6, ground := Ground.data }, { on := 6, ground := Ground.chain }, { on := 0, ground := Ground.phase }, { on := 1, ground := Ground.phase }, { on := 2, ground := Ground.phase }, { on := 3, ground := Ground.phase }, { on := 4, ground := Ground.phase }, { on := 5, ground := Ground.phase }, { on := 6, ground := Ground.phase }, { on := 7, ground := Ground.textOnly Departure.lateStores }, { on := 8, ground := Ground.textOnly Departure.lateStoresUnsure }], guard := none }) (v := ?_) rfl (by kernel_rfl) (by kernel_rfl) (by kernel_rfl) (fun _ _ _ h => h) (Or.inl ⟨by rfl, ?_⟩) ?_
  rotate_left
  · intro w'
    go_simp
    try with_reducible rfl
  try simp only [Act.put, List.setIfInBounds_toArray, List.set_cons_zero, List.set_cons_succ]
  refine wpAny_take (i := 10) (oi := { dst := some 0, op := Op.assign (Operand.tmp 37), type := 142, pos := "part.go:93", after := #[{ on := 8, ground := Ground.data }, { on := 9, ground := Ground.chain }, { on := 0, ground := Ground.phase }, { on := 1, ground := Ground.phase }, { on := 2, ground := Ground.phase }, { on := 3, ground := Ground.phase }, { on := 4, ground := Ground.phase }, { on := 5, ground := Ground.phase }, { on := 6, ground := Ground.phase }, { on := 7, ground := Ground.phase }, { on := 8, ground := Ground.phase }, { on := 9, ground := Ground.phase }], guard := none }) (v := ?_) rfl (by kernel_rfl) (by kernel_rfl) (by kernel_rfl) (fun _ _ _ h => h) (Or.inl ⟨by rfl, ?_⟩) ?_
  rotate_left
  · intro w'
    go_simp
    try with_reducible rfl
  try simp only [Act.put, List.setIfInBounds_toArray, List.set_cons_zero, List.set_cons_succ]
  refine wpAny_done (by kernel_rfl) ?_ _
  refine NoPanic.normal ?_
  exact h.out _ _ _ _ _ H2 R2 z2
set_option maxHeartbeats 4000000 in
set_option maxRecDepth 100000 in
theorem reg77_9 (L : List Ent) (w0 : World) (w : World) (base : Nat) (P : Nat → Prop) (hPb : ∀ b, P b → b < base) (lv : Value) (f : Qf) (t : Qy) (g off m c : Nat) (H0 : St Nope w0 w L) (R0 : RqP w base P lv f) (hf : f.len ≤ 1000000) (hL : ∀ e ∈ L, e.2.1 < base) (h0 : w0.heap.size ≤ base) (hbw : base ≤ w.heap.size) (hm : 1 ≤ m) (sv : Value) (tv : Value) (n : Nat) (hn : n ≤ m) (hQO : Calls Tryz.prog 81 #[tv] w.drew fun e w' => ∃ z, e = .returned z ∧ QyV w' (fun b => w.drew.heap.size ≤ b) z t ∧ Below w.drew.heap.size w.drew w') (hsl : ∀ W, (Instr.sliceAt 142 (.slice (some ⟨g, off, none⟩) m c) (some (.int .i64 (n : Int))) none none).run Tryz.prog W = .ok sv W)
    (u1 u2 u3 u4 u8 u9 u10 u11 u12 u13 u14 u15 u16 u17 u18 u19 u20 u21 u22 u23 u24 u25 u26 u27 u28 u29 u30 u31 u32 u33 u34 u35 u36 u37 u38 u39 u40 u41 u42 u43 u44 u45 u46 u47 u48 : Value) (Q : Exit → Act → World → Prop)
    (h : ∀ (X40 X41 v2 : Value) (w2 : World), St Nope w0 w2 L → RqP w2 base P v2 (f.snoc t) → w.heap.size ≤ w2.heap.size → Q .normal { tmps := (List.toArray ((sv :: u1 :: u2 :: u3 :: u4 :: v2 :: tv :: .int .i64 (n : Int) :: u8 :: u9 :: u10 :: u11 :: u12 :: u13 :: u14 :: u15 :: u16 :: u17 :: u18 :: u19 :: u20 :: u21 :: u22 :: u23 :: u24 :: u25 :: u26 :: u27 :: u28 :: u29 :: u30 :: u31 :: u32 :: u33 :: u34 :: u35 :: u36 :: u37 :: lv :: tv :: X40 :: X41 :: v2 :: .slice (some ⟨g, off, none⟩) m c :: .int .i64 (n : Int) :: sv :: u46 :: u47 :: u48 :: []) : List Value)), defers := [] } w2) :
    (Code.region 9 #[{ dst := some 38, op := Op.move (Operand.tmp 5), type := 28, pos := "part.go:96", after := #[], guard := none }, { dst := some 39, op := Op.move (Operand.tmp 6), type := 43, pos := "part.go:96", after := #[], guard := none }, { dst := some 40, op := Op.call { callee := Callee.value (Operand.func 81), args := #[Operand.tmp 39], argTypes := #[43] }, type := 30, pos := "part.go:96", after := #[{ on := 1, ground := Ground.data }], guard := none }, { dst := some 41, op := Op.buildSlice 28 1 #[(0, Operand.tmp 40)], type := 28, pos := "part.go:96", after := #[{ on := 2, ground := Ground.data }], guard := none }, { dst := some 42, op := Op.call { callee := Callee.builtin Builtin.append, args := #[Operand.tmp 38, Operand.tmp 41], argTypes := #[28, 28] }, type := 28, pos := "part.go:96", after := #[{ on := 0, ground := Ground.data }, { on := 3, ground := Ground.data }, { on := 2, ground := Ground.chain }], guard := none }, { dst := some 43, op := Op.move (Operand.tmp 0), type := 142, pos := "part.go:96", after := #[], guard := none }, { dst := some 44, op := Op.move (Operand.tmp 7), type := 3, pos := "part.go:96", after := #[], guard := none }, { dst := some 45, op := Op.slice 142 (Operand.tmp 43) (some (Operand.tmp 44)) none none, type := 142, pos := "part.go:96", after := #[{ on := 5, ground := Ground.data }, { on := 6, ground := Ground.data }], guard := none }, { dst := some 5, op := Op.assign (Operand.tmp 42), type := 28, pos := "part.go:96", after := #[{ on := 4, ground := Ground.data }, { on := 4, ground := Ground.chain }, { on := 0, ground := Ground.phase }, { on := 1, ground := Ground.phase }, { on := 2, ground := Ground.phase }, { on := 3, ground := Ground.phase }, { on := 4, ground := Ground.phase }, { on := 5, ground := Ground.textOnly Departure.lateStores }, { on := 6, ground := Ground.textOnly Departure.lateStores }, { on := 7, ground := Ground.textOnly Departure.lateStoresUnsure }], guard := none }, { dst := some 0, op := Op.assign (Operand.tmp 45), type := 142, pos := "part.go:96", after := #[{ on := 7, ground := Ground.data }, { on := 8, ground := Ground.chain }, { on := 0, ground := Ground.phase }, { on := 1, ground := Ground.phase }, { on := 2, ground := Ground.phase }, { on := 3, ground := Ground.phase }, { on := 4, ground := Ground.phase }, { on := 5, ground := Ground.phase }, { on := 6, ground := Ground.phase }, { on := 7, ground := Ground.phase }, { on := 8, ground := Ground.phase }], guard := none }] true).wp Tryz.prog Q { tmps := (List.toArray ((.slice (some ⟨g, off, none⟩) m c :: u1 :: u2 :: u3 :: u4 :: lv :: tv :: .int .i64 (n : Int) :: u8 :: u9 :: u10 :: u11 :: u12 :: u13 :: u14 :: u15 :: u16 :: u17 :: u18 :: u19 :: u20 :: u21 :: u22 :: u23 :: u24 :: u25 :: u26 :: u27 :: u28 :: u29 :: u30 :: u31 :: u32 :: u33 :: u34 :: u35 :: u36 :: u37 :: u38 :: u39 :: u40 :: u41 :: u42 :: u43 :: u44 :: u45 :: u46 :: u47 :: u48 :: []) : List Value)), defers := [] } w := by
  have i1 : (1 : Int) ≤ (m : Int) := by omega
  have i3 : 0 < m := by omega
  have i2 : (0 : Int) < (m : Int) := by omega
  have H := H0.drew
  have R := R0.kept (w' := w.drew) (fun b _ _ => rfl)
  have ltv : ∀ k, lv.ownBlock = some k → k < w.drew.heap.size := fun k hk => R0.top k hk
  replace hsl := hide hsl
  replace hQO := hide hQO
  clear H0 R0
  replace h := hide h
  refine wp_region_noPanic ?_
  refine wp_region_any (by kernel_rfl) ?_
  change wpAny _ _ _ _ _ _ _ (World.drew w)
  refine wpAny_take (i := 0) (oi := { dst := some 38, op := Op.move (Operand.tmp 5), type := 28, pos := "part.go:96", after := #[], guard := none }) (v := ?_) rfl (by kernel_rfl) (by kernel_rfl) (by kernel_rfl) (fun _ _ _ h => h) (Or.inl ⟨by rfl, ?_⟩) ?_
  rotate_left
  · intro w'
    go_simp
    try with_reducible rfl
  try simp only [Act.put, List.setIfInBounds_toArray, List.set_cons_zero, List.set_cons_succ]
  refine wpAny_take (i := 1) (oi := { dst := some 39, op := Op.move (Operand.tmp 6), type := 43, pos := "part.go:96", after := #[], guard := none }) (v := ?_) rfl (by kernel_rfl) (by kernel_rfl) (by kernel_rfl) (fun _ _ _ h => h) (Or.inl ⟨by rfl, ?_⟩) ?_
  rotate_left
  · intro w'
    go_simp
    try with_reducible rfl
  try simp only [Act.put, List.setIfInBounds_toArray, List.set_cons_zero, List.set_cons_succ]
  refine wpAny_take (i := 5) (oi := { dst := some 43, op := Op.move (Operand.tmp 0), type := 142, pos := "part.go:96", after := #[], guard := none }) (v := ?_) rfl (by kernel_rfl) (by kernel_rfl) (by kernel_rfl) (fun _ _ _ h => h) (Or.inl ⟨by rfl, ?_⟩) ?_
  rotate_left
  · intro w'
    go_simp
    try with_reducible rfl
  try simp only [Act.put, List.setIfInBounds_toArray, List.set_cons_zero, List.set_cons_succ]
  refine wpAny_take (i := 6) (oi := { dst := some 44, op := Op.move (Operand.tmp 7), type := 3, pos := "part.go:96", after := #[], guard := none }) (v := ?_) rfl (by kernel_rfl) (by kernel_rfl) (by kernel_rfl) (fun _ _ _ h => h) (Or.inl ⟨by rfl, ?_⟩) ?_
  rotate_left
  · intro w'
    go_simp
    try with_reducible rfl
  try simp only [Act.put, List.setIfInBounds_toArray, List.set_cons_zero, List.set_cons_succ]
  refine wpAny_take (i := 7) (oi := { dst := some 45, op := Op.slice 142 (Operand.tmp 43) (some (Operand.tmp 44)) none none, type := 142, pos := "part.go:96", after := #[{ on := 5, ground := Ground.data }, { on := 6, ground := Ground.data }], guard := none }) (v := sv) rfl (by kernel_rfl) (by kernel_rfl) (by kernel_rfl) (fun _ _ _ h => h) (Or.inl ⟨by rfl, ?_⟩) ?_
  · intro w'
    exact run_slP _ rfl rfl (hsl.out _)
  try simp only [Act.put, List.setIfInBounds_toArray, List.set_cons_zero, List.set_cons_succ]
  refine wpAny_ready (rs := [2]) (by kernel_rfl) (by simp) ?_
  refine (AllReady.cons (o := { dst := some 40, op := Op.call { callee := Callee.value (Operand.func 81), args := #[Operand.tmp 39], argTypes := #[43] }, type := 30, pos := "part.go:96", after := #[{ on := 1, ground := Ground.data }], guard := none }) rfl (fun K2 hK2 => ?_) AllReady.nil)
  go_simp
  refine hQO.out.mono ?_
  rintro e w3 ⟨z, rfl, T3, B3⟩
  refine hK2 _ _ ?_
  replace H := H.call B3 (Nat.le_refl _)
  replace R := R.kept (w' := w3) (fun b _ hl => B3.block b hl)
  have s3 := B3.size
  clear hK2 K2
  try simp only [Act.put, List.setIfInBounds_toArray, List.set_cons_zero, List.set_cons_succ]
  refine wpAny_ready (rs := [3]) (by kernel_rfl) (by simp) ?_
  refine (AllReady.cons (o := { dst := some 41, op := Op.buildSlice 28 1 #[(0, Operand.tmp 40)], type := 28, pos := "part.go:96", after := #[{ on := 2, ground := Ground.data }], guard := none }) rfl (fun K3 hK3 => ?_) AllReady.nil)
  refine step_val2 (by rfl) (bs28z' T3 rfl _) ?_
  refine hK3 _ _ ?_
  clear hK3 K3
  try simp only [Act.put, List.setIfInBounds_toArray, List.set_cons_zero, List.set_cons_succ]
  refine wpAny_ready (rs := [4]) (by kernel_rfl) (by simp) ?_
  refine (AllReady.cons (o := { dst := some 42, op := Op.call { callee := Callee.builtin Builtin.append, args := #[Operand.tmp 38, Operand.tmp 41], argTypes := #[28, 28] }, type := 28, pos := "part.go:96", after := #[{ on := 0, ground := Ground.data }, { on := 3, ground := Ground.data }, { on := 2, ground := Ground.chain }], guard := none }) rfl (fun K4 hK4 => ?_) AllReady.nil)
  refine step_snocP H hPb R (T3.mono (fun b _ hb => .inr hb)) (.tmp 38) (.tmp 41) rfl rfl rfl rfl ltv (Nat.le_trans hbw (Nat.le_refl _)) s3 hf hL h0 (fun v2 w2 H2 R2 z2 => ?_)
  refine hK4 _ _ ?_
  clear H R T3
  clear hK4 K4
  try simp only [Act.put, List.setIfInBounds_toArray, List.set_cons_zero, List.set_cons_succ]
  refine wpAny_take (i := 8) (oi := { dst := some 5, op := Op.assign (Operand.tmp 42), type := 28, pos := "part.go:96", after := #[{ on := 4, ground := Ground.data }, { on := 4, ground := Ground.chain }, { on := 0, ground := Ground.phase }, { on := 1, ground := Ground.phase }, { on := 2, ground := Ground.phase }, { on := 3, ground := Ground.phase }, { on := 4, ground := Ground.phase }, { on := 5, ground := Ground.textOnly Departure.lateStores }, { on := 6, ground := Ground.textOnly Departure.lateStores }, { on := 7, ground := Ground.textOnly Departure.lateStoresUnsure }], guard := none }) (v := ?_) rfl (by kernel_rfl) (by kernel_rfl) (by kernel_rfl) (fun _ _ _ h => h) (Or.inl ⟨by rfl, ?_⟩) ?_
  rotate_left
  · intro w'
    go_simp
    try with_reducible rfl
  try simp only [Act.put, List.setIfInBounds_toArray, List.set_cons_zero, List.set_cons_succ]
  refine wpAny_take (i := 9) (oi := { dst := some 0, op := Op.assign (Operand.tmp 45), type := 142, pos := "part.go:96", after := #[{ on := 7, ground := Ground.data }, { on := 8, ground := Ground.chain }, { on := 0, ground := Ground.phase }, { on := 1, ground := Ground.phase }, { on := 2, ground := Ground.phase }, { on := 3, ground := Ground.phase }, { on := 4, ground := Ground.phase }, { on := 5, ground := Ground.phase }, { on := 6, ground := Ground.phase }, { on := 7, ground := Ground.phase }, { on := 8, ground := Ground.phase }], guard := none }) (v := ?_) rfl (by kernel_rfl) (by kernel_rfl) (by kernel_rfl) (fun _ _ _ h => h) (Or.inl ⟨by rfl, ?_⟩) ?_
  rotate_left
  · intro w'
    go_simp
    try with_reducible rfl
  try simp only [Act.put, List.setIfInBounds_toArray, List.set_cons_zero, List.set_cons_succ]
  refine wpAny_done (by kernel_rfl) ?_ _
  refine NoPanic.normal ?_
  exact h.out _ _ _ _ H2 R2 (Nat.le_trans s3 z2)
end Go.Proofs.YtnffbmipllhjdaaGreatDoor.G

namespace Go.Proofs.YtnffbmipllhjdaaGreatDoor.G
open Go.RowKit Go.Shelf
set_option linter.unusedVariables false
set_option linter.unusedSimpArgs false
attribute [local go_sem] Oper.semAt_some

theorem longest_zero {p : Pt} {r : List Pt} (hB : PtB p) (h : (longest (p :: r)).2 = 0) : ∃ q, p = .ask q := by
  cases p with
  | ask q => exact ⟨q, rfl⟩
  | told ts =>
    exfalso
    obtain ⟨m, hm⟩ := Option.ne_none_iff_exists'.1 (hB.no ts rfl)
    unfold longest at h
    rw [longG_some hm] at h
    simp at h
theorem cut_part (g off m c i : Nat) (hi : i ≤ m) (hc : m ≤ c) (hmx : m ≤ 1000000) : ∃ sa c1, (∀ W, (Instr.sliceAt 142 (.slice (some ⟨g, off, none⟩) m c) (some (.int .i64 (i : Int))) none none).run Tryz.prog W = .ok (.slice (some sa) (m - i) c1) W) ∧ (i < m → sa = ⟨g, off + i * 5, none⟩) ∧ m - i ≤ c1 := by
  refine ⟨if c = i then ⟨g, off, none⟩ else ⟨g, off + i * 5, none⟩, c - i, fun W => ?_, fun h => if_neg (by omega), by omega⟩
  have hu := Tryz.underlying142
  have hs : ∀ w, (sizeOf 85).run Tryz.prog w = .ok 5 w := fun w => by kernel_rfl
  have h1 : (i : Int) ≤ (m : Int) := by omega
  have h2 : (m : Int) ≤ (c : Int) := by omega
  have h3 : (i : Int) ≤ (c : Int) := by omega
  simp [go_sem, hu, h1, h2, h3, hs]
  split <;> rfl
/-- The query of a part of a row. -/
theorem part_query {w : World} {P : Nat → Prop} {base : Nat} {l : List Pt} {va : Option Addr} {vc : Nat} {zs : List Value} (ho : w.ownsRow base 85 5 (.slice va l.length vc) l.length zs) (hk : PaL w P l zs) (k : Nat) (q : Qy) (hp : l[k]? = some (.ask q)) :
    ∃ g lv, va = some ⟨g, 0, none⟩ ∧ QyV w P (qV q.op q.tx lv) q ∧ ∀ w', Below w.heap.size w w' → (loadVar 30 ⟨g, k * 5 + 2, none⟩).run Tryz.prog w' = .ok (qV q.op q.tx lv) w' := by
  obtain ⟨b, tv, o, t, lv, hc, hv⟩ := PaL.nth hk k _ hp
  obtain ⟨lv', e, hq⟩ := hv
  have e3 : pA b tv o t lv = pA false nilS q.op q.tx lv' := by simpa [pV] using e
  rw [e3] at hc
  rcases ho.2 with ⟨h1, h2⟩ | ⟨g, cap', cur, e, _, hg, _⟩
  · have := (List.getElem?_eq_some_iff.1 hp).1
    omega
  · cases e
    refine ⟨g, lv', rfl, hq, fun w' hb => load30c (fun j u hj => ?_)⟩
    have hj3 : j < 3 := (Array.getElem?_eq_some_iff.1 hj).1
    have h5 : (pA false nilS q.op q.tx lv')[2 + j]? = some u := by
      rcases (show j = 0 ∨ j = 1 ∨ j = 2 by omega) with rfl | rfl | rfl <;> exact hj
    have := ho.cells (g := g) rfl _ _ (hc (2 + j) u h5)
    rw [add_plain, Nat.zero_add, ← Nat.add_assoc] at this
    exact (hb.cell (p := ⟨g, k * 5 + 2 + j, none⟩) (Array.getElem?_eq_some_iff.1 hg).1).trans this
def lenV : Value → Nat
  | .slice _ n _ => n
  | _ => 0
set_option maxHeartbeats 8000000 in
set_option maxRecDepth 100000 in
theorem allOf_any (l : List Pt) (hB : ∀ p ∈ l, PtB p) (hok : ∀ q ∈ pieces l.length l, q.ok) (hsz : ((pieces l.length l).map Qy.sz).sum ≤ 100000) (hln : l.length ≤ 100000) (P : Nat → Prop) (v : Value) (zs : List Value) (w : World) (ho : w.ownsRow 0 85 5 v l.length zs) (hk : PaL w P l zs) (hP : ∀ b, P b → b < w.heap.size) :
    Calls Tryz.prog 77 #[v] w fun e w' => ∃ x, e = .returned x ∧ PaV w' (fun b => P b ∨ w.heap.size ≤ b) x (allOf l) ∧ Below w.heap.size w w' := by
  obtain ⟨va, vc, rfl⟩ : ∃ va vc, v = .slice va l.length vc := by
    rcases ho.2 with ⟨rfl, h⟩ | ⟨g, cap, cur, rfl, _⟩
    · exact ⟨_, _, by rw [h]⟩
    · exact ⟨_, _, rfl⟩
  have hvc : l.length ≤ vc := by
    rcases ho.2 with ⟨e, h⟩ | ⟨g, cap, cur, e, _, _, hcap, _⟩
    · rw [h]; exact Nat.zero_le _
    · cases e; exact hcap
  have LO := hide (fun (w' : World) (hb : Below w.heap.size w w') => longest_any l hB P _ zs w' (own85_below ho hb) (hk.kept (fun b _ hl => hb.block b hl)) (fun b h => by have := hP b h; have := hb.size; omega) (by omega))
  have child := hide (fun k p h => part_nth ho hk k p h)
  have childq := hide (fun k q h => part_query ho hk k q h)
  replace hB := hide hB
  replace hP := hide hP
  replace hok := hide hok
  replace hsz := hide hsz
  have H := St.start Nope w
  clear ho hk
  go_enter Tryz.func77, Tryz.ntmps77
  go_wp2_with (first | ((with_reducible refine at_alloc 85 ?_); refine wl_alloc85 H ?_; clear H; intro g2 w1 H q1 q2; have hb1 := H.below) | (go_at_call 130; refine (LO.out _ hb1).mono ?_))
  rintro e w2 ⟨tv, rfl, o2, B2⟩
  have hg2 := H.lti 0 rfl
  have H2 := H.call B2 (Nat.le_refl _)
  have h2g := hide (H2.get 0 rfl)
  have h2b := hide H2.below
  have s12 := hide B2.size
  have o2h := hide o2
  generalize hnn : (longest l).2 = nn at *
  replace hnn := hide hnn
  by_cases hall : nn = l.length
  · subst hall
    obtain ⟨ta, tc, rfl⟩ := row_slice o2
    have hfin : Hid (allOf l = .told (longest l).1) := by show _ = _; unfold allOf; rw [if_pos hnn.out]
    clear H H2 B2 child childq o2 LO
    go_wp2_with (first | ((with_reducible refine at_build85 ?_); refine wl_val (run_build85_t _ ta _ tc rfl rfl _) ?_) | ((with_reducible refine at_store 85 ?_); refine wl_storeT 85 (v := pV true (.slice ta (longest l).1.length tc) 0 [] nilS) rfl rfl (store85r h2g.out rfl rfl) ?_))
    refine bodyPost_ret (results_cell0 rfl _ _ _ _ rfl (load85 (setRow_heap _ _ _ _ 85 (0, 0) h2g.out))) rfl ?_
    have hpv : PaV w2 (fun b => w1.heap.size ≤ b) (pV true (.slice ta (longest l).1.length tc) 0 [] nilS) (.told (longest l).1) := ⟨_, rfl, ownsT_mono o2h.out (Nat.zero_le _), fun b hb => (ownT1_lt o2h.out hb).1⟩
    obtain ⟨r1, r2⟩ := ret85 h2g.out h2b.out q1 hpv (fun h => by omega)
    refine ⟨_, rfl, ?_, r2⟩
    rw [hfin.out]
    exact r1.mono (fun b _ hb => .inr (by have := hb1.size; omega))
  · have i0 : ¬ ((nn : Int) = (l.length : Int)) := by omega
    have hfin : Hid (allOf l = .ask (tg 3 (pieces l.length l))) := by show _ = _; unfold allOf; rw [if_neg (by rw [hnn.out]; exact hall)]
    have hPb : Hid (∀ b, P b → b < w2.heap.size) := fun b hb => by have := hP.out b hb; have := hb1.size; have := s12.out; omega
    have hg22 : g2 < w2.heap.size := by have := s12.out; omega
    have hws2 : w.heap.size ≤ w2.heap.size := by have := hb1.size; have := s12.out; omega
    have hH2 := hide H2
    have hva0 : Hid (l.length - 0 ≤ vc) := by show _ ≤ _; omega
    have hl0 : 0 < l.length := by
      rcases Nat.eq_zero_or_pos l.length with h | h
      · have h1 := longest_le l
        rw [hnn.out] at h1
        omega
      · exact h
    obtain ⟨g, hva⟩ : ∃ g, va = some ⟨g, 0, none⟩ := by
      obtain ⟨g, _, _, _, _, _, e, _⟩ := child.out 0 _ (List.getElem?_eq_getElem hl0)
      exact ⟨g, e⟩
    subst hva
    clear H H2 B2 o2 LO
    go_wp2
    generalize ((nn : Int) == (l.length : Int)) = b16
    go_loopw [0, 5] (fun sv lv wr => ∃ (k f : Nat) (acc : List Qy) (sa : Option Addr) (c : Nat), k ≤ l.length ∧ sv = .slice sa (l.length - k) c ∧ Hid (k < l.length → sa = some ⟨g, k * 5, none⟩) ∧ Hid (l.length - k ≤ c) ∧ Hid (RqP wr w2.heap.size P lv (fq acc)) ∧ Hid (St Nope w wr [(true, g2, 85, pA false nilS 0 [] nilS)]) ∧ Hid (w2.heap.size ≤ wr.heap.size) ∧ Hid (l.length - k ≤ f ∧ acc ++ pieces f (l.drop k) = pieces l.length l)) (fun sv _ _ => lenV sv)
    case atStart => exact ⟨0, l.length, [], _, _, Nat.zero_le _, rfl, fun _ => by simp, hvc, RqP.start _ _ _, hH2.out, Nat.le_refl _, by omega, by simp⟩
    case round =>
      obtain ⟨k, f, acc, sa, c, hk, rfl, hsa, hc, R, H, hws, hpc⟩ := hrel
      by_cases hlt : k < l.length
      · obtain rfl := hsa.out hlt
        obtain ⟨m, hm⟩ : ∃ m, m = l.length - k := ⟨_, rfl⟩
        obtain ⟨dl, hdl⟩ : ∃ dl, dl = l.drop k := ⟨_, rfl⟩
        have hdm : dl.length = m := by rw [hdl, List.length_drop, hm]
        rw [← hm]
        rw [← hm] at hc
        have m1 : 1 ≤ m := by omega
        have i3 : (0 : Int) < (m : Int) := by omega
        have hbw := H.out.below
        have hch : Hid (∀ j p, dl[j]? = some p → ∃ b tv o t lv, tv.oneCell' = true ∧ lv.oneCell' = true ∧ PaV wr P (pV b tv o t lv) p ∧ ∀ w', Below wr.heap.size wr w' → (loadVar 85 ⟨g, k * 5 + j * 5, none⟩).run Tryz.prog w' = .ok (pV b tv o t lv) w') := fun j p hj => by
          rw [hdl, List.getElem?_drop] at hj
          obtain ⟨g', b, tv, o, t, lv, e, h1, h2, h3, h4⟩ := child.out _ _ hj
          cases e
          refine ⟨b, tv, o, t, lv, h1, h2, h3.kept (fun b _ hl => hbw.block b hl), fun w' hb => ?_⟩
          have := h4 w' (hbw.trans (hb.mono hbw.size))
          rwa [show (k + j) * 5 = k * 5 + j * 5 by omega] at this
        have hBd : Hid (∀ p ∈ dl, PtB p) := fun p hp => hB.out p (by rw [hdl] at hp; exact List.mem_of_mem_drop hp)
        have LOF := longest_off dl hBd.out P g (k * 5) c wr hch.out (fun b h => by have := hP.out b h; have := hbw.size; omega) (by omega)
        rw [hdm] at LOF
        replace LOF := hide LOF
        have hdl1 := hide hdl
        have hdm1 := hide hdm
        have hm1 := hide hm
        clear hdl hdm hm hch
        go_wp2_with (go_at_call 130; refine LOF.out.mono ?_)
        intro e w4 tv4 he4 o4 B4
        subst he4
        have H4 := H.out.call B4 (Nat.le_refl _)
        have R4 := R.out.kept (fun b _ hl => B4.block b hl)
        have s4 := B4.size
        have hb4 := hbw.trans (B4.mono hbw.size)
        have hL4 : ∀ e ∈ [((true, g2, 85, pA false nilS 0 [] nilS) : Ent)], e.2.1 < w2.heap.size := fun e he => by rw [List.mem_singleton.1 he]; exact hg22
        have hacc : (fq acc).len ≤ 1000000 := by
          rw [fq_len]
          have h1 := congrArg List.length hpc.out.2
          rw [List.length_append] at h1
          have h2 := pieces_len l.length l
          omega
        obtain ⟨n, hn⟩ : ∃ n, n = (longest dl).2 := ⟨_, rfl⟩
        have hnm : n ≤ m := by rw [hn, ← hdm1.out]; exact longest_le dl
        rw [← hn]
        have hf1 : 1 ≤ f := by have := hpc.out.1; have := hm1.out; omega
        obtain ⟨f', rfl⟩ : ∃ f', f = f' + 1 := ⟨f - 1, by omega⟩
        obtain ⟨p0, hp0⟩ : ∃ p, l[k]? = some p := ⟨_, List.getElem?_eq_getElem hlt⟩
        have hdr : dl = p0 :: l.drop (k + 1) := by rw [hdl1.out]; exact drop_at hp0
        have hs24 : w2.heap.size ≤ w4.heap.size := Nat.le_trans hws.out s4
        by_cases hn0 : n = 0
        · subst hn0
          obtain ⟨q, rfl⟩ := longest_zero (hB.out _ (List.mem_of_getElem? hp0)) (by rw [← hdr]; exact hn.symm)
          obtain ⟨g', lv', e, hq, hld⟩ := childq.out k q hp0
          cases e
          obtain ⟨s1, c1, hsl, hs1, hsc⟩ := cut_part g (k * 5) m c 1 m1 hc.out (by have := hm1.out; omega)
          have hq4 := hide (hq.kept (w' := w4) (fun b _ hl => hb4.block b hl))
          have hld4 := hide (hld w4.drew hb4.drew)
          have hpc2 : Hid (l.length - (k + 1) ≤ f' ∧ (acc ++ [q]) ++ pieces f' (l.drop (k + 1)) = pieces l.length l) := by
            refine ⟨by have := hpc.out.1; omega, ?_⟩
            rw [← hpc.out.2, ← hdl1.out, hdr]
            rw [pieces, if_pos (by rw [← hdr]; exact hn.symm)]
            simp [Pt.q]
          have hslH := hide hsl
          have hs1H := hide hs1
          have hscH := hide hsc
          replace hdr := hide hdr
          replace hn := hide hn
          replace hp0 := hide hp0
          replace hacc := hide hacc
          have H4h := hide H4
          have R4h := hide R4
          clear LOF B4 o4 R H hq hld hsl hs1 hsc H4 R4 hpc
          go_wp2
          refine reg77_8 [(true, g2, 85, pA false nilS 0 [] nilS)] w w4 w2.heap.size P hPb.out _ (fq acc) q g (k * 5) m c H4h.out R4h.out hacc.out hL4 hws2 hs24 m1 _ lv' hq4.out hld4.out hslH.out _ _ _ _ _ _ _ _ _ _ _ _ _ _ _ _ _ _ _ _ _ _ _ _ _ _ _ _ _ _ _ _ _ _ _ _ _ _ _ _ _ _ _ _ _ _ _ _ (fun X31 X32 X34 v5 w5 H5 R5 z5 => ?_)
          rw [fq_snoc] at R5
          have R5h := hide R5
          have H5h := hide H5
          have s5h : Hid (w2.heap.size ≤ w5.heap.size) := Nat.le_trans hs24 z5
          have e1 : m - 1 = l.length - (k + 1) := by have := hm1.out; omega
          clear R5 H5 z5
          rw [e1] at hscH ⊢
          go_wp2
          go_roundw
          case rel => exact ⟨k + 1, f', acc ++ [q], _, _, by omega, rfl, fun h => by rw [hs1H.out (by have := hm1.out; omega)]; congr 2; omega, hscH.out, R5h, H5h, s5h, hpc2⟩
          case measure => simp [lenV]; omega
        · obtain ⟨s1, c1, hsl, hs1, hsc⟩ := cut_part g (k * 5) m c n hnm hc.out (by have := hm1.out; omega)
          have i4 : ¬ ((n : Int) = 0) := by omega
          have QO := hide (queryOf_any (longest dl).1 (longest_bd dl) tv4 w4.drew (ownsT_mono o4 (Nat.zero_le _)))
          have hpc2 : Hid (l.length - (k + n) ≤ f' ∧ (acc ++ [queryOf (longest dl).1]) ++ pieces f' (l.drop (k + n)) = pieces l.length l) := by
            refine ⟨by have := hpc.out.1; omega, ?_⟩
            rw [← hpc.out.2, ← List.drop_drop, ← hdl1.out]
            rw [hdr, pieces, if_neg (by rw [← hdr]; omega)]
            rw [← hdr, ← hn]
            simp
          have hslH := hide hsl
          have hs1H := hide hs1
          have hscH := hide hsc
          replace hdr := hide hdr
          replace hn := hide hn
          replace hp0 := hide hp0
          replace hacc := hide hacc
          have H4h := hide H4
          have R4h := hide R4
          clear LOF B4 o4 R H hsl hs1 hsc H4 R4 hpc
          go_wp2
          refine reg77_9 [(true, g2, 85, pA false nilS 0 [] nilS)] w w4 w2.heap.size P hPb.out _ (fq acc) (queryOf (longest dl).1) g (k * 5) m c H4h.out R4h.out hacc.out hL4 hws2 hs24 m1 _ tv4 n hnm QO.out hslH.out _ _ _ _ _ _ _ _ _ _ _ _ _ _ _ _ _ _ _ _ _ _ _ _ _ _ _ _ _ _ _ _ _ _ _ _ _ _ _ _ _ _ _ _ _ _ (fun X40 X41 v5 w5 H5 R5 z5 => ?_)
          rw [fq_snoc] at R5
          have R5h := hide R5
          have H5h := hide H5
          have s5h : Hid (w2.heap.size ≤ w5.heap.size) := Nat.le_trans hs24 z5
          have e1 : m - n = l.length - (k + n) := by have := hm1.out; omega
          clear R5 H5 z5
          rw [e1] at hscH
          rw [e1]
          go_wp2
          go_roundw
          case rel => exact ⟨k + n, f', acc ++ [queryOf (longest dl).1], _, _, by have := hm1.out; omega, rfl, fun h => by rw [hs1H.out (by have := hm1.out; omega)]; congr 2; omega, hscH.out, R5h, H5h, s5h, hpc2⟩
          case measure => simp [lenV]; have := hm1.out; omega
      · obtain rfl : k = l.length := by omega
        have i4 : ¬ ((0 : Int) < ((l.length - l.length : Nat) : Int)) := by omega
        rw [Nat.sub_self] at i4 ⊢
        have hacc : acc = pieces l.length l := by
          have h1 := hpc.out.2
          rw [List.drop_length] at h1
          have h2 : pieces f [] = [] := by cases f <;> rfl
          rw [h2, List.append_nil] at h1
          exact h1
        subst hacc
        obtain ⟨zs, oo, kk, pp⟩ := RqP.row R.out
        have TG := hide (together_ok 3 (.inl rfl) (fun b => P b ∨ w2.heap.size ≤ b) _ _ zs _ (owns3_mono oo (Nat.zero_le _)) pp kk hok.out hsz.out)
        clear oo kk pp R
        go_wp2_with (go_at_call 131; refine TG.out.mono ?_)
        intro e w4 x he hq B4
        subst he
        have H4 := H.out.call B4 (Nat.le_refl _)
        have hq2 := hide (hq.mono (P' := fun b => P b ∨ w2.heap.size ≤ b) (fun b _ hb => by
          have := hws.out
          rcases hb with (h | h) | h
          · exact .inl h
          · exact .inr h
          · exact .inr (by omega)))
        obtain ⟨xa, xm, xc, rfl⟩ := hq2.out.slice
        have h4g := hide (H4.get 0 rfl)
        have h4b := hide H4.below
        clear TG hq B4 H4
        go_wp2_with (first | ((with_reducible refine at_build85 ?_); refine wl_val (run_build85_q _ (tg 3 (pieces l.length l)).op (tg 3 (pieces l.length l)).tx xa xm xc rfl _) ?_) | ((with_reducible refine at_store 85 ?_); refine wl_storeT 85 (v := pV false nilS (tg 3 (pieces l.length l)).op (tg 3 (pieces l.length l)).tx (.slice xa xm xc)) rfl rfl (store85r h4g.out rfl rfl) ?_))
        refine bodyPost_ret (results_cell0 rfl _ _ _ _ rfl (load85 (setRow_heap _ _ _ _ 85 (0, 0) h4g.out))) rfl ?_
        have hpv : PaV w4 (fun b => P b ∨ w2.heap.size ≤ b) (pV false nilS (tg 3 (pieces l.length l)).op (tg 3 (pieces l.length l)).tx (.slice xa xm xc)) (.ask (tg 3 (pieces l.length l))) := ⟨_, rfl, hq2.out⟩
        obtain ⟨r1, r2⟩ := ret85 h4g.out h4b.out q1 hpv (fun h => by
          rcases h with h | h
          · have := hP.out _ h; omega
          · omega)
        refine ⟨_, rfl, ?_, r2⟩
        rw [hfin.out]
        exact r1.mono (fun b _ hb => hb.imp id (fun h => by omega))
end Go.Proofs.YtnffbmipllhjdaaGreatDoor.G

namespace Go.Proofs.YtnffbmipllhjdaaGreatDoor.G
open Go.RowKit Go.Shelf
set_option linter.unusedVariables false
set_option linter.unusedSimpArgs false

def ptN (n : Nd) (ps : List Pt) : Pt := if n.k = 2 then allOf ps else if n.k = 3 then oneOf ps else if n.k = 4 then repeated (ps.headD (.ask allQ)) n.mn n.mx else setPt n.s
def ptF : Fo → List Pt
  | .nil => []
  | .cons n k r => ptN n (ptF k) :: ptF r
def ptT (t : Tr) : Pt := ptN t.1 (ptF t.2)
theorem ptF_len : ∀ f : Fo, (ptF f).length = f.len
  | .nil => rfl
  | .cons n k r => by simp [ptF, Fo.len, ptF_len r]
theorem ptF_nth : ∀ (f : Fo) (i : Nat), i < f.len → (ptF f)[i]? = some (ptT (f.nth i))
  | .nil, i, h => by simp [Fo.len] at h
  | .cons n k r, 0, _ => rfl
  | .cons n k r, i + 1, h => by
    have := ptF_nth r i (by simpa [Fo.len] using h)
    simpa [ptF, Fo.nth] using this
theorem ofNat_lt {a b : Nat} (h : a < b) (hb : b < 256) : ([UInt8.ofNat a] : Tx) < [UInt8.ofNat b] := by
  refine List.Lex.rel ?_
  rw [UInt8.lt_iff_toNat_lt]
  simp
  omega
theorem setTo_mem (s : S4) : ∀ k, ∀ t ∈ setTo s k, ∃ b, b < k ∧ t = [UInt8.ofNat b] := fun k t h => by
  unfold setTo at h
  obtain ⟨b, hb, rfl⟩ := List.mem_map.1 h
  exact ⟨b, by simpa using (List.mem_filter.1 hb).1, rfl⟩
theorem setTo_asc (s : S4) : ∀ k, k ≤ 256 → Asc (setTo s k)
  | 0, _ => by simp [setTo, Asc]
  | k + 1, h => by
    rw [setTo_step]
    have ih := setTo_asc s k (by omega)
    split
    · unfold Asc at *
      rw [List.pairwise_append]
      refine ⟨ih, by simp, fun a ha b hb => ?_⟩
      obtain ⟨i, hi, rfl⟩ := setTo_mem s k a ha
      rw [List.mem_singleton.1 hb]
      exact ofNat_lt hi (by omega)
    · exact ih
theorem setPt_bd (s : S4) : PtB (setPt s) := fun ts e => by
  unfold setPt at e
  split at e
  · cases e
  · cases e
    refine ⟨by omega, fun t ht => ?_, setTo_asc s 256 (Nat.le_refl _)⟩
    obtain ⟨b, _, rfl⟩ := setTo_mem s 256 t ht
    simp
theorem ptN_bd (n : Nd) (ps : List Pt) : PtB (ptN n ps) := by
  unfold ptN
  split
  · exact allOf_bd ps
  · split
    · exact oneOf_bd ps
    · split
      · exact repeated_bd _ _ _
      · exact setPt_bd _
theorem ptF_bd : ∀ f : Fo, ∀ p ∈ ptF f, PtB p
  | .nil, p, h => by simp [ptF] at h
  | .cons n k r, p, h => by
    rcases List.mem_cons.1 h with rfl | h
    · exact ptN_bd n _
    · exact ptF_bd r p h
theorem ptT_bd (t : Tr) : PtB (ptT t) := ptN_bd t.1 _
/-- Nothing is meant: what is asked may be. -/
abbrev noM : Mg := fun _ => False
theorem pts_no {p : Pt} {M : Mg} (h : PtS p M) : PtS p noM := by
  cases p with
  | told ts => exact fun s hs => hs.elim
  | ask q => exact ⟨h.1, fun s hs => hs.elim⟩
theorem ptl_no {l : List Pt} (h : ∀ p ∈ l, PtS p noM) : PtL l (l.map (fun _ => noM)) := by
  induction l with
  | nil => exact .nil
  | cons p r ih => exact .cons (h p (by simp)) (ih (fun q hq => h q (by simp [hq])))
theorem allQ_ok : allQ.ok := all_ok
theorem setPt_no (s : S4) : PtS (setPt s) noM := by
  unfold setPt
  split
  · exact ⟨allQ_ok, fun s hs => hs.elim⟩
  · exact fun s hs => hs.elim
theorem repeated_ok {p : Pt} (h : PtS p noM) (mn mx : Int) : PtS (repeated p mn mx) noM := by
  unfold repeated
  split
  · exact fun s hs => hs.elim
  · split
    · exact ⟨allQ_ok, fun s hs => hs.elim⟩
    · exact ⟨h.asked_ok, fun s hs => hs.elim⟩
theorem ptN_no (n : Nd) {ps : List Pt} (h : ∀ p ∈ ps, PtS p noM) (hB : ∀ p ∈ ps, PtB p) : PtS (ptN n ps) noM := by
  unfold ptN
  split
  · exact pts_no (allOf_sound (ptl_no h) hB)
  · split
    · exact pts_no (oneOf_sound (ptl_no h))
    · split
      · refine repeated_ok ?_ _ _
        cases ps with
        | nil => exact ⟨allQ_ok, fun s hs => hs.elim⟩
        | cons p r => exact h p (by simp)
      · exact setPt_no _
theorem ptF_no : ∀ f : Fo, ∀ p ∈ ptF f, PtS p noM
  | .nil, p, h => by simp [ptF] at h
  | .cons n k r, p, h => by
    rcases List.mem_cons.1 h with rfl | h
    · exact ptN_no n (ptF_no k) (ptF_bd k)
    · exact ptF_no r p h
theorem pieces_ok (l : List Pt) (h : ∀ p ∈ l, PtS p noM) (hB : ∀ p ∈ l, PtB p) : ∀ q ∈ pieces l.length l, q.ok := fun q hq => (pieces_sound l.length (ptl_no h) hB q hq).1
def wP (p : Pt) : Nat := max 993 (max p.asked.sz p.q.sz)
theorem wP_ok (p : Pt) : PtZ p (wP p) ∧ 993 ≤ wP p := by
  unfold wP PtZ
  omega
theorem wP_le {p : Pt} {n : Nat} (h : PtZ p n) (hn : 993 ≤ n) : wP p ≤ n := by
  unfold wP
  unfold PtZ at h
  omega
theorem ptN_w (n : Nd) (ps : List Pt) : wP (ptN n ps) ≤ 1000 + (ps.map wP).sum := by
  unfold ptN
  split
  · exact wP_le (allOf_sz wP ps (fun p _ => wP_ok p)) (by omega)
  · split
    · exact wP_le (oneOf_sz wP ps (fun p _ => wP_ok p)) (by omega)
    · split
      · have h1 := wP_ok (ps.headD (.ask allQ))
        refine Nat.le_trans (wP_le (repeated_sz _ _ _ _ h1.1 h1.2) h1.2) ?_
        cases ps with
        | nil => show wP (.ask allQ) ≤ _; decide
        | cons p r => simp; omega
      · refine Nat.le_trans (wP_le (n := 993) ?_ (Nat.le_refl _)) (by omega)
        unfold setPt
        split
        · exact ⟨by decide, by decide⟩
        · rename_i h8
          exact ptz_told ((setPt_bd n.s) _ (by unfold setPt; rw [if_neg h8])) (Nat.le_refl _)
theorem ptF_w : ∀ f : Fo, ((ptF f).map wP).sum ≤ 1000 * f.sz
  | .nil => by simp [ptF]
  | .cons n k r => by
    have h1 := ptN_w n (ptF k)
    have h2 := ptF_w k
    have h3 := ptF_w r
    simp only [ptF, List.map_cons, List.sum_cons, Fo.sz]
    omega
theorem pieces_w (f : Fo) : ((pieces (ptF f).length (ptF f)).map Qy.sz).sum ≤ 1000 * f.sz := Nat.le_trans (pieces_sz wP _ _ (fun p _ => wP_ok p)) (ptF_w f)
theorem asked_w (f : Fo) : (((ptF f).map Pt.asked).map Qy.sz).sum ≤ 1000 * f.sz := Nat.le_trans (asked_sum wP _ (fun p _ => wP_ok p)) (ptF_w f)
end Go.Proofs.YtnffbmipllhjdaaGreatDoor.G

namespace Go.Proofs.YtnffbmipllhjdaaGreatDoor.G
open Go.RowKit Go.Shelf
set_option linter.unusedVariables false
set_option linter.unusedSimpArgs false
attribute [local go_sem] Oper.semAt_some

section
variable {w w' : World} {ops : Array Oper} {o : Oper} {a : Act} {Q : Exit → Act → World → Prop} {K : Act → World → Prop} {E : Prop} {dst : Option Nat} {x y : Operand} {ty : TypeId} {pos : String} {after : Array Edge} {gd : Option (Nat × Bool)}
theorem step_skip2 (hgd : Region.wanted o (yielded ops a.tmps) = true) (hr : (execOp a.eval o).run Tryz.prog w = .ok .skip w') (h : K (a.put o.dst undef) w') : if Region.wanted o (yielded ops a.tmps) = true then Oper.wp Tryz.prog o a w K Q else E := by
  rw [if_pos hgd]
  unfold Oper.wp
  rw [hr]
  exact h
theorem run_ldT (T : TypeId) (ev : Operand → Value) {ad : Addr} {v : Value} (hx : ev x = .pointer (some ad)) (hl : (loadVar T ad).run Tryz.prog w = .ok v w) : (execOp ev ⟨dst, .load T x, ty, pos, after, gd⟩).run Tryz.prog w = .ok (.value v) w := by
  unfold execOp
  simp only [hx, Instr.loadAt, Instr.sureAddr, Sem.run_bind, Sem.run_pure, Result.andThen_ok, hl]
end
set_option maxHeartbeats 4000000 in
set_option maxRecDepth 100000 in
theorem reg35_13 (w : World) (g1 g2 b n c : Nat) (hn : 1 ≤ n) (y0 : Value) (mn mx : Int) (p : Pt) (Pm : Nat → Prop) (hz : w.heap[g2]? = some (.cells (pA false nilS 0 [] nilS) 85 (0, 0))) (hld : ∀ W, But (fun k => k = g2) w W → (loadVar 85 ⟨b, 0, none⟩).run Tryz.prog W = .ok y0 W ∧ (loadVar 3 ⟨g1, 6, none⟩).run Tryz.prog W = .ok (.int .i64 mn) W ∧ (loadVar 3 ⟨g1, 7, none⟩).run Tryz.prog W = .ok (.int .i64 mx) W) (hcall : Calls Tryz.prog 79 #[y0, .int .i64 mn, .int .i64 mx] w.drew fun e w' => ∃ z, e = .returned z ∧ PaV w' Pm z p ∧ Below w.drew.heap.size w.drew w')
    (u0 u4 u5 u6 u7 u8 u9 u10 u11 u12 u13 u14 u15 u16 u17 u18 u19 u20 u21 u22 u23 u24 u25 u26 u27 u28 u29 u30 u31 u32 u33 u34 u35 u36 u37 u38 u39 u40 u41 : Value) (Q : Exit → Act → World → Prop)
    (h : ∀ (X32 X34 X36 : Value) (bb : Bool) (tv : Value) (o : Int) (t : Tx) (l : Value) (w' : World), w'.heap[g2]? = some (.cells (pA false nilS 0 [] nilS) 85 (0, 0)) → PaV w' Pm (pV bb tv o t l) p → Below w.heap.size w w' → tv.oneCell' = true → l.oneCell' = true → Q .normal { tmps := (List.toArray ((u0 :: .pointer (some ⟨g1, 0, none⟩) :: .pointer (some ⟨g2, 0, none⟩) :: .slice (some ⟨b, 0, none⟩) n c :: u4 :: u5 :: u6 :: u7 :: u8 :: u9 :: u10 :: u11 :: u12 :: u13 :: u14 :: u15 :: u16 :: u17 :: u18 :: u19 :: u20 :: u21 :: u22 :: u23 :: u24 :: u25 :: u26 :: u27 :: u28 :: u29 :: u30 :: .slice (some ⟨b, 0, none⟩) n c :: X32 :: y0 :: X34 :: .int .i64 mn :: X36 :: .int .i64 mx :: pV bb tv o t l :: u39 :: u40 :: u41 :: []) : List Value)), defers := [] } (w'.setRow g2 (pA bb tv o t l))) :
    (Code.region 13 #[{ dst := some 31, op := Op.move (Operand.tmp 3), type := 142, pos := "part.go:65", after := #[], guard := none }, { dst := some 32, op := Op.indexAddr 142 (Operand.tmp 31) (Operand.const (Value.int IntKind.i64 0)), type := 0, pos := "part.go:65", after := #[{ on := 0, ground := Ground.data }], guard := none }, { dst := some 33, op := Op.load 85 (Operand.tmp 32), type := 85, pos := "part.go:65", after := #[{ on := 1, ground := Ground.data }], guard := none }, { dst := some 34, op := Op.fieldAddr 27 (Operand.tmp 1) 3, type := 0, pos := "part.go:65", after := #[], guard := none }, { dst := some 35, op := Op.load 3 (Operand.tmp 34), type := 3, pos := "part.go:65", after := #[{ on := 3, ground := Ground.data }], guard := none }, { dst := some 36, op := Op.fieldAddr 27 (Operand.tmp 1) 4, type := 0, pos := "part.go:65", after := #[], guard := none }, { dst := some 37, op := Op.load 3 (Operand.tmp 36), type := 3, pos := "part.go:65", after := #[{ on := 5, ground := Ground.data }], guard := none }, { dst := some 38, op := Op.call { callee := Callee.value (Operand.func 79), args := #[Operand.tmp 33, Operand.tmp 35, Operand.tmp 37], argTypes := #[85, 3, 3] }, type := 85, pos := "part.go:65", after := #[{ on := 2, ground := Ground.data }, { on := 4, ground := Ground.data }, { on := 6, ground := Ground.data }], guard := none }, { dst := none, op := Op.store 85 (Operand.tmp 2) (Operand.tmp 38), type := 0, pos := "part.go:65", after := #[{ on := 7, ground := Ground.data }, { on := 7, ground := Ground.chain }, { on := 0, ground := Ground.phase }, { on := 1, ground := Ground.phase }, { on := 2, ground := Ground.phase }, { on := 3, ground := Ground.phase }, { on := 4, ground := Ground.phase }, { on := 5, ground := Ground.phase }, { on := 6, ground := Ground.phase }, { on := 7, ground := Ground.phase }], guard := none }] true).wp Tryz.prog Q { tmps := (List.toArray ((u0 :: .pointer (some ⟨g1, 0, none⟩) :: .pointer (some ⟨g2, 0, none⟩) :: .slice (some ⟨b, 0, none⟩) n c :: u4 :: u5 :: u6 :: u7 :: u8 :: u9 :: u10 :: u11 :: u12 :: u13 :: u14 :: u15 :: u16 :: u17 :: u18 :: u19 :: u20 :: u21 :: u22 :: u23 :: u24 :: u25 :: u26 :: u27 :: u28 :: u29 :: u30 :: u31 :: u32 :: u33 :: u34 :: u35 :: u36 :: u37 :: u38 :: u39 :: u40 :: u41 :: []) : List Value)), defers := [] } w := by
  have i0 : 0 < n := by omega
  have i1 : (0 : Int) < (n : Int) := by omega
  replace hld := hide hld
  replace hcall := hide hcall
  replace h := hide h
  refine wp_region_noPanic ?_
  refine wp_region_held_drew (S := fun w0 => But (fun k => k = g2) w w0) (by kernel_rfl) (But.refl _ _).drew (fun hD => ?_)
  refine wpAnyH_take (i := 0) (oi := { dst := some 31, op := Op.move (Operand.tmp 3), type := 142, pos := "part.go:65", after := #[], guard := none }) (v := ?_) rfl (by kernel_rfl) (by kernel_rfl) (by kernel_rfl) (fun _ _ _ h => h) (Or.inl ⟨by rfl, ?_⟩) hD ?_
  rotate_left
  · intro w' hw'
    clear hw'
    go_simp
    try with_reducible rfl
  try simp only [Act.put, List.setIfInBounds_toArray, List.set_cons_zero, List.set_cons_succ]
  refine wpAnyH_take (i := 1) (oi := { dst := some 32, op := Op.indexAddr 142 (Operand.tmp 31) (Operand.const (Value.int IntKind.i64 0)), type := 0, pos := "part.go:65", after := #[{ on := 0, ground := Ground.data }], guard := none }) (v := ?_) rfl (by kernel_rfl) (by kernel_rfl) (by kernel_rfl) (fun _ _ _ h => h) (Or.inl ⟨by rfl, ?_⟩) hD ?_
  rotate_left
  · intro w' hw'
    clear hw'
    go_simp
    try with_reducible rfl
  try simp only [Act.put, List.setIfInBounds_toArray, List.set_cons_zero, List.set_cons_succ]
  refine wpAnyH_take (i := 2) (oi := { dst := some 33, op := Op.load 85 (Operand.tmp 32), type := 85, pos := "part.go:65", after := #[{ on := 1, ground := Ground.data }], guard := none }) (v := y0) rfl (by kernel_rfl) (by kernel_rfl) (by kernel_rfl) (fun _ _ _ h => h) (Or.inl ⟨by rfl, ?_⟩) hD ?_
  · intro w' hw'
    exact run_ldT 85 _ rfl ((hld.out _ hw').1)
  try simp only [Act.put, List.setIfInBounds_toArray, List.set_cons_zero, List.set_cons_succ]
  refine wpAnyH_take (i := 3) (oi := { dst := some 34, op := Op.fieldAddr 27 (Operand.tmp 1) 3, type := 0, pos := "part.go:65", after := #[], guard := none }) (v := ?_) rfl (by kernel_rfl) (by kernel_rfl) (by kernel_rfl) (fun _ _ _ h => h) (Or.inl ⟨by rfl, ?_⟩) hD ?_
  rotate_left
  · intro w' hw'
    clear hw'
    go_simp
    try with_reducible rfl
  try simp only [Act.put, List.setIfInBounds_toArray, List.set_cons_zero, List.set_cons_succ]
  refine wpAnyH_take (i := 4) (oi := { dst := some 35, op := Op.load 3 (Operand.tmp 34), type := 3, pos := "part.go:65", after := #[{ on := 3, ground := Ground.data }], guard := none }) (v := .int .i64 mn) rfl (by kernel_rfl) (by kernel_rfl) (by kernel_rfl) (fun _ _ _ h => h) (Or.inl ⟨by rfl, ?_⟩) hD ?_
  · intro w' hw'
    exact run_ldT 3 _ rfl ((hld.out _ hw').2.1)
  try simp only [Act.put, List.setIfInBounds_toArray, List.set_cons_zero, List.set_cons_succ]
  refine wpAnyH_take (i := 5) (oi := { dst := some 36, op := Op.fieldAddr 27 (Operand.tmp 1) 4, type := 0, pos := "part.go:65", after := #[], guard := none }) (v := ?_) rfl (by kernel_rfl) (by kernel_rfl) (by kernel_rfl) (fun _ _ _ h => h) (Or.inl ⟨by rfl, ?_⟩) hD ?_
  rotate_left
  · intro w' hw'
    clear hw'
    go_simp
    try with_reducible rfl
  try simp only [Act.put, List.setIfInBounds_toArray, List.set_cons_zero, List.set_cons_succ]
  refine wpAnyH_take (i := 6) (oi := { dst := some 37, op := Op.load 3 (Operand.tmp 36), type := 3, pos := "part.go:65", after := #[{ on := 5, ground := Ground.data }], guard := none }) (v := .int .i64 mx) rfl (by kernel_rfl) (by kernel_rfl) (by kernel_rfl) (fun _ _ _ h => h) (Or.inl ⟨by rfl, ?_⟩) hD ?_
  · intro w' hw'
    exact run_ldT 3 _ rfl ((hld.out _ hw').2.2)
  try simp only [Act.put, List.setIfInBounds_toArray, List.set_cons_zero, List.set_cons_succ]
  refine wpAnyH_ready (rs := [7]) (by kernel_rfl) (by simp) ?_
  refine (AllReadyH.cons (o := { dst := some 38, op := Op.call { callee := Callee.value (Operand.func 79), args := #[Operand.tmp 33, Operand.tmp 35, Operand.tmp 37], argTypes := #[85, 3, 3] }, type := 85, pos := "part.go:65", after := #[{ on := 2, ground := Ground.data }, { on := 4, ground := Ground.data }, { on := 6, ground := Ground.data }], guard := none }) rfl (fun K7 hK7 => ?_) AllReadyH.nil)
  go_simp
  refine hcall.out.mono ?_
  rintro e w7 ⟨z, rfl, T7, B7⟩
  obtain ⟨bb, tv, o, t, l, rfl, hto, hlo⟩ := T7.form
  have h7g : w7.heap[g2]? = some (.cells (pA false nilS 0 [] nilS) 85 (0, 0)) := (B7.block g2 (Array.getElem?_eq_some_iff.1 hz).1).trans hz
  refine hK7.out _ _ (But.trans (T := fun k => k = g2) hD (but_of_below B7 _ (fun k h1 h2 => by have h3 : w.heap.size ≤ k := h2; omega)) (fun i hi h => h)) (fun hD1 => ?_)
  clear hK7 K7
  try simp only [Act.put, List.setIfInBounds_toArray, List.set_cons_zero, List.set_cons_succ]
  refine wpAnyH_ready (rs := [8]) (by kernel_rfl) (by simp) ?_
  refine (AllReadyH.cons (o := { dst := none, op := Op.store 85 (Operand.tmp 2) (Operand.tmp 38), type := 0, pos := "part.go:65", after := #[{ on := 7, ground := Ground.data }, { on := 7, ground := Ground.chain }, { on := 0, ground := Ground.phase }, { on := 1, ground := Ground.phase }, { on := 2, ground := Ground.phase }, { on := 3, ground := Ground.phase }, { on := 4, ground := Ground.phase }, { on := 5, ground := Ground.phase }, { on := 6, ground := Ground.phase }, { on := 7, ground := Ground.phase }], guard := none }) rfl (fun K8 hK8 => ?_) AllReadyH.nil)
  refine step_skip2 (by rfl) (stT 85 rfl rfl rfl (store85r h7g hto hlo)) ?_
  refine hK8.out _ _ (But.setRow hD1 (fun _ => rfl) _) (fun hD2 => ?_)
  clear hK8 K8
  try simp only [Act.put, List.setIfInBounds_toArray, List.set_cons_zero, List.set_cons_succ]
  refine wpAnyH_done (by kernel_rfl) ?_ _
  refine NoPanic.normal ?_
  exact h.out _ _ _ _ _ _ _ _ _ h7g T7 ⟨B7.os, B7.tape, B7.output, B7.size, B7.block⟩ hto hlo
/-- All sets of a pattern are sets. -/
def okF : Fo → Prop
  | .nil => True
  | .cons n k r => OkS n.s ∧ okF k ∧ okF r
def okT (t : Tr) : Prop := OkS t.1.s ∧ okF t.2
theorem okF_nth : ∀ (f : Fo) (k : Nat), k < f.len → okF f → okT (f.nth k)
  | .nil, k, h, _ => by simp [Fo.len] at h
  | .cons n kk r, 0, _, h => ⟨h.1, h.2.1⟩
  | .cons n kk r, k + 1, h, hf => okF_nth r k (by simpa [Fo.len] using h) hf.2.2
theorem take_snocA {α : Type} {l : List α} {k : Nat} {c : α} (h : l[k]? = some c) : l.take (k + 1) = l.take k ++ [c] := by rw [List.take_add_one, h]; simp
theorem RpP.base {w : World} {base : Nat} {v : Value} {l : List Pt} (h : RpP w base v l) {k : Nat} (hk : v.ownBlock = some k) : base ≤ k := by
  obtain ⟨xs, o, _⟩ := h
  exact (own85_lt o hk).1
/-- The first part of a row. -/
theorem part_at0 {w : World} {P : Nat → Prop} {base n : Nat} {l : List Pt} {v : Value} {zs : List Value} (ho : w.ownsRow base 85 5 v n zs) (hn : 1 ≤ n) (hk : PaL w P l zs) (p : Pt) (hp : l[0]? = some p) :
    ∃ g c b tv o t lv, v = .slice (some ⟨g, 0, none⟩) n c ∧ v.ownBlock = some g ∧ PaV w P (pV b tv o t lv) p ∧ ∀ W : World, W.heap[g]? = w.heap[g]? → (loadVar 85 ⟨g, 0, none⟩).run Tryz.prog W = .ok (pV b tv o t lv) W := by
  obtain ⟨b, tv, o, t, lv, hc, hv⟩ := PaL.nth hk 0 p hp
  rcases ho.2 with ⟨h1, h2⟩ | ⟨g, cap', cur, e, h0, hg, h4⟩
  · omega
  · subst e
    refine ⟨g, cap', b, tv, o, t, lv, rfl, rfl, hv, fun W hW => load85c (fun j u hj => ?_)⟩
    have oW : W.ownsRow base 85 5 (.slice (some ⟨g, 0, none⟩) n cap') n zs := own85_of_block ho (fun k hk => by cases hk; exact hW)
    have := oW.cells (g := g) rfl _ _ (hc j u hj)
    rw [add_plain, Nat.zero_add] at this
    rw [Nat.zero_mul] at this
    exact this
/-- What a function answers that answers a part. -/
def RetPb (B : Nat) (w : World) (p : Pt) (e : Ending) (w' : World) : Prop := ∃ y, e = .returned y ∧ PaV w' (fun b => B ≤ b) y p ∧ Below w.heap.size w w'
theorem head_some {α : Type} {l : List α} {p d : α} (h : l[0]? = some p) : l.headD d = p := by
  cases l with
  | nil => simp at h
  | cons a r => simpa using h
set_option maxHeartbeats 8000000 in
set_option maxRecDepth 100000 in
theorem partOf_any : ∀ (N : Nat) (t : Tr), szT t ≤ N → ∀ (P : Nat → Prop) (x : Value) (w : World), TrV w P x t → fitT t → okT t → szT t ≤ 99 → Calls Tryz.prog 35 #[x] w (RetPb w.heap.size w (ptT t)) := by
  intro N
  induction N with
  | zero => intro t h; simp [szT] at h
  | succ N ih =>
  rintro ⟨nd, kids⟩ hN P0 x w T hfit hokt hsz
  obtain ⟨v, zs, rfl, ho, hp, hkd⟩ := T
  obtain ⟨va, vc, hv, hvc, hvm⟩ := owns8_val ho
  subst hv
  simp only at *
  have hlen : kids.len ≤ 98 := by have := len_le_sz kids; simp only [szT] at hsz; omega
  have hkidsz : kids.sz < N + 1 := by simp only [szT] at hN; omega
  have hkidsz2 : kids.sz ≤ 98 := by simp only [szT] at hsz; omega
  have H := St.start Nope w
  have ihH := hide ih
  clear ih
  obtain ⟨kk, ks, kmn, kmx⟩ := nd
  simp only at *
  have hfitk := hide hfit.2
  have hoks := hide hokt.1
  have hokk := hide hokt.2
  clear hokt
  obtain ⟨ft1, ft2, ft3, ft4⟩ := hfit.1
  simp only at ft1 ft2 ft3 ft4
  clear hfit
  have child : Hid (∀ j, j < kids.len → ∃ b cx, va = some ⟨b, 0, none⟩ ∧ b < w.heap.size ∧ (∃ ca cn cc, cx = reV (kids.nth j).1.k (kids.nth j).1.s (.slice ca cn cc) (kids.nth j).1.mn (kids.nth j).1.mx) ∧ ∀ w', Below w.heap.size w w' → TrV w' P0 cx (kids.nth j) ∧ (loadVar 27 ⟨b, j * 8, none⟩).run Tryz.prog w' = .ok cx w') := fun j hj => by
    obtain ⟨cv, czs, hcells, cho, chp, chk⟩ := Kd.nth hkd j hj
    rcases ho.2 with ⟨h1, h2⟩ | ⟨b, cap', cur, hv, _, hgb, _⟩
    · omega
    · cases hv
      have hbl := (Array.getElem?_eq_some_iff.1 hgb).1
      obtain ⟨ca, cc, hcv, _, _⟩ := owns8_val cho
      refine ⟨b, _, rfl, hbl, ⟨ca, _, cc, by rw [hcv]⟩, fun w' hb => ⟨TrV.kept (w := w) ⟨cv, czs, rfl, cho, chp, chk⟩ (fun k _ hk => hb.block k hk), ?_⟩⟩
      refine load28c (fun i u hi => ?_)
      have := ho.cells (g := b) rfl _ _ (hcells i u hi)
      rw [add_plain, Nat.zero_add] at this
      exact (hb.cell (p := ⟨b, j * 8 + i, none⟩) hbl).trans this
  clear ho hkd hp
  go_enter Tryz.func35, Tryz.ntmps35
  go_wp2_with (first | ((with_reducible refine at_box 27 ?_); refine wl_box28 H rfl ?_; clear H; intro g1 w1 H q1 q2) | ((with_reducible refine at_alloc 85 ?_); refine wl_alloc85 H ?_; clear H; intro g2 w2 H q3 q4) | ((with_reducible refine at_load 25 ?_); refine wl_ld26 1 5 H (v := .slice va kids.len vc) rfl rfl rfl ?_))
  have hg2 := H.lti 0 rfl
  have hg1 := H.lti 1 rfl
  have hw2 := H.below.size
  have hpl := ptF_len kids
  have hHs := hide H
  go_loopw [3, 9] (fun lv iv wr => ∃ k : Nat, k ≤ kids.len ∧ iv = .int .i64 (k : Int) ∧ Hid (RpP wr w2.heap.size lv ((ptF kids).take k)) ∧ Hid (St Nope w wr [(true, g2, 85, pA false nilS 0 [] nilS), (true, g1, 27, reA kk ks (.slice va kids.len vc) kmn kmx)]) ∧ Hid (w2.heap.size ≤ wr.heap.size)) (fun _ iv _ => kids.len - (intOf iv).toNat)
  case atStart => exact ⟨0, Nat.zero_le _, rfl, RpP.start _ _, hHs.out, Nat.le_refl _⟩
  case round =>
    clear H
    obtain ⟨k, hk, rfl, R, H, hws⟩ := hrel
    by_cases hlt : k < kids.len
    · have i3 : (k : Int) < (kids.len : Int) := by omega
      obtain ⟨bb, cx, hva, hbb, ⟨ca, cn, cc0, hcx⟩, hch⟩ := child.out k hlt
      subst hva
      have hfc := fit_nth kids k hlt hfitk.out
      have hoc := okF_nth kids k hlt hokk.out
      have hsc := sz_nth kids k hlt
      have hcd := ptF_nth kids k hlt
      generalize kids.nth k = tc at hch hfc hoc hsc hcx hcd
      subst hcx
      have hbw := H.out.below
      have hld := hide ((hch _ hbw).2)
      have IH : Hid (∀ w', Below wr.heap.size wr w' → Calls Tryz.prog 35 #[reV tc.1.k tc.1.s (.slice ca cn cc0) tc.1.mn tc.1.mx] w' (RetPb w'.heap.size w' (ptT tc))) := fun w' hb => ihH.out tc (by omega) P0 _ w' (hch _ (hbw.trans (hb.mono hbw.size))).1 hfc hoc (by omega)
      have htk : Hid ((ptF kids).take k ++ [ptT tc] = (ptF kids).take (k + 1)) := (take_snocA hcd).symm
      have HH := St.start Nope wr
      replace hch := hide hch
      replace hfc := hide hfc
      replace hoc := hide hoc
      replace hcd := hide hcd
      go_wp2_with (first | ((with_reducible refine at_load 27 ?_); first | (refine wl_load28 0 HH rfl rfl ?_) | (refine wl_loadA 27 rfl hld.out ?_)) | ((with_reducible refine at_alloc 27 ?_); refine wl_alloc28 HH ?_; clear HH; intro g5 w5 HH q5 q6) | ((with_reducible refine at_store 27 ?_); refine wl_store28 0 HH rfl rfl rfl rfl ?_; clear HH; intro w6 HH; have hb6 := HH.below) | (go_at_call 35; refine (IH.out _ hb6).mono ?_))
      rintro e w7 ⟨y, rfl, T7, B7⟩
      have b7r := hb6.trans (B7.mono hb6.size)
      have H7 := H.out.call b7r (Nat.le_refl _)
      have R7 := R.out.kept (fun b _ hl => b7r.block b hl)
      have lt7 : Hid (∀ k, u3.ownBlock = some k → k < w6.heap.size) := fun k hk => Nat.lt_of_lt_of_le (R.out.top hk) hb6.size
      have ne7 : Hid (∀ e ∈ [((true, g2, 85, pA false nilS 0 [] nilS) : Ent), (true, g1, 27, reA kk ks (.slice (some ⟨bb, 0, none⟩) kids.len vc) kmn kmx)], u3.ownBlock ≠ some e.2.1) := fun e he hk => by
        have h1 := R.out.base hk
        simp only [List.mem_cons, List.not_mem_nil, or_false] at he
        rcases he with rfl | rfl
        · have h2 : w2.heap.size ≤ g2 := h1; omega
        · have h2 : w2.heap.size ≤ g1 := h1; omega
      have s26 := Nat.le_trans hws.out hb6.size
      have s67 := B7.size
      have T7h := hide T7
      have hln : Hid (((ptF kids).take k).length ≤ 1000000) := by show _ ≤ _; rw [List.length_take]; omega
      clear HH B7 T7 R H b7r
      go_wp2_with ((with_reducible refine at_snocA ?_); refine wl_snocA (p := ptT tc) H7 R7 T7h.out (fun _ => rfl) (fun _ => rfl) rfl lt7.out s26 s67 hln.out ne7.out hw2 ?_; intro u v8 w8 H8 R8 s8 t8)
      rw [htk.out] at R8
      have R8h := hide R8
      have H8h := hide H8
      have s8h : Hid (w2.heap.size ≤ w8.heap.size) := Nat.le_trans s26 (Nat.le_trans s67 s8)
      clear R8 H8 s8 t8 H7 R7
      go_wp2
      go_roundw
      case rel => exact ⟨k + 1, by omega, by simp, R8h, H8h, s8h⟩
      case measure => simp [intOf]; omega
    · obtain rfl : k = kids.len := by omega
      have i4 : ¬ ((kids.len : Int) < (kids.len : Int)) := by omega
      rw [List.take_of_length_le (by omega)] at R
      obtain ⟨xs, ow, pk⟩ := R.out
      have hwB := H.out.below.size
      have pk2 := pk.mono (P' := fun b => w2.heap.size ≤ b ∧ b < wr.heap.size) (fun b hb hp => ⟨hp.1, hb⟩)
      have owlt : ∀ b, (w2.heap.size ≤ b ∧ b < wr.heap.size) → b < wr.heap.size := fun b h => h.2
      have hmono : ∀ {w' : World} {y : Value} {p : Pt}, PaV w' (fun b => (w2.heap.size ≤ b ∧ b < wr.heap.size) ∨ wr.heap.size ≤ b) y p → PaV w' (fun b => w2.heap.size ≤ b) y p := fun h => h.mono (fun b _ hb => by
        rcases hb with h | h
        · exact h.1
        · exact Nat.le_trans hws.out h)
      rcases ft4 with ⟨rfl, hl0⟩ | rfl | rfl | rfl
      · have hfin : Hid (ptT (⟨1, ks, kmn, kmx⟩, kids) = setPt ks) := by show _ = _; simp [ptT, ptN]
        have AO : Hid (∀ w', Below wr.heap.size wr w' → Calls Tryz.prog 80 #[setV ks] w' (RetPb w'.heap.size w' (setPt ks))) := fun w' _ => partOfSet_any ks hoks.out w'
        clear R pk pk2 ow
        go_wp2_with (first | ((with_reducible refine at_load 3 ?_); refine wl_ld3 1 0 H.out (v := .int .i64 1) rfl rfl rfl ?_) | ((with_reducible refine at_load 24 ?_); refine wl_loadA 24 rfl (load25r (H.out.get 1 rfl)) ?_) | (go_at_call 80; refine (AO.out _ (Below.refl _ _)).mono ?_))
        rintro e w7 ⟨y, rfl, T7, B7⟩
        obtain ⟨bb, tv, o, t, l, rfl, hto, hlo⟩ := T7.form
        have H7 := H.out.call B7 (Nat.le_refl _)
        have h7g := hide (H7.get 0 rfl)
        have h7b := hide H7.below
        have T7m := hide (T7.mono (P' := fun b => w2.heap.size ≤ b) (fun b _ hb => Nat.le_trans hws.out hb))
        clear AO T7 B7 H7
        go_wp2_with ((with_reducible refine at_store 85 ?_); refine wl_storeT 85 (v := pV bb tv o t l) rfl rfl (store85r h7g.out hto hlo) ?_)
        refine bodyPost_ret (results_cell0 rfl _ _ _ _ rfl (load85 (setRow_heap _ _ _ _ 85 (0, 0) h7g.out))) rfl ?_
        obtain ⟨r1, r2⟩ := ret85 h7g.out h7b.out q3 T7m.out (fun h => by omega)
        exact ⟨_, rfl, by rw [hfin.out]; exact r1.mono (fun b _ hb => Nat.le_trans hw2 hb), r2⟩
      · have hfin : Hid (ptT (⟨2, ks, kmn, kmx⟩, kids) = allOf (ptF kids)) := by show _ = _; simp [ptT, ptN]
        have AO : Hid (Calls Tryz.prog 77 #[u3] wr (RetPb w2.heap.size wr (allOf (ptF kids)))) := (allOf_any (ptF kids) (ptF_bd kids) (pieces_ok _ (ptF_no kids) (ptF_bd kids)) (Nat.le_trans (pieces_w kids) (by omega)) (by omega) _ u3 xs wr (own85_mono ow (Nat.zero_le _)) pk2 owlt).mono (fun e w' ⟨y, he, h1, h2⟩ => ⟨y, he, hmono h1, h2⟩)
        clear R pk pk2 ow
        go_wp2_with (first | ((with_reducible refine at_load 3 ?_); refine wl_ld3 1 0 H.out (v := .int .i64 2) rfl rfl rfl ?_) | (go_at_call 77; refine AO.out.mono ?_))
        rintro e w7 ⟨y, rfl, T7, B7⟩
        obtain ⟨bb, tv, o, t, l, rfl, hto, hlo⟩ := T7.form
        have H7 := H.out.call B7 (Nat.le_refl _)
        have h7g := hide (H7.get 0 rfl)
        have h7b := hide H7.below
        have T7m := hide T7
        clear AO T7 B7 H7
        go_wp2_with ((with_reducible refine at_store 85 ?_); refine wl_storeT 85 (v := pV bb tv o t l) rfl rfl (store85r h7g.out hto hlo) ?_)
        refine bodyPost_ret (results_cell0 rfl _ _ _ _ rfl (load85 (setRow_heap _ _ _ _ 85 (0, 0) h7g.out))) rfl ?_
        obtain ⟨r1, r2⟩ := ret85 h7g.out h7b.out q3 T7m.out (fun h => by omega)
        exact ⟨_, rfl, by rw [hfin.out]; exact r1.mono (fun b _ hb => Nat.le_trans hw2 hb), r2⟩
      · have hfin : Hid (ptT (⟨3, ks, kmn, kmx⟩, kids) = oneOf (ptF kids)) := by show _ = _; simp [ptT, ptN]
        have AO : Hid (Calls Tryz.prog 78 #[u3] wr (RetPb w2.heap.size wr (oneOf (ptF kids)))) := (oneOf_any (ptF kids) (ptF_bd kids) (fun p hp => (ptF_no kids p hp).asked_ok) (Nat.le_trans (asked_w kids) (by omega)) (by omega) _ u3 xs wr (own85_mono ow (Nat.zero_le _)) pk2 owlt).mono (fun e w' ⟨y, he, h1, h2⟩ => ⟨y, he, hmono h1, h2⟩)
        clear R pk pk2 ow
        go_wp2_with (first | ((with_reducible refine at_load 3 ?_); refine wl_ld3 1 0 H.out (v := .int .i64 3) rfl rfl rfl ?_) | (go_at_call 78; refine AO.out.mono ?_))
        rintro e w7 ⟨y, rfl, T7, B7⟩
        obtain ⟨bb, tv, o, t, l, rfl, hto, hlo⟩ := T7.form
        have H7 := H.out.call B7 (Nat.le_refl _)
        have h7g := hide (H7.get 0 rfl)
        have h7b := hide H7.below
        have T7m := hide T7
        clear AO T7 B7 H7
        go_wp2_with ((with_reducible refine at_store 85 ?_); refine wl_storeT 85 (v := pV bb tv o t l) rfl rfl (store85r h7g.out hto hlo) ?_)
        refine bodyPost_ret (results_cell0 rfl _ _ _ _ rfl (load85 (setRow_heap _ _ _ _ 85 (0, 0) h7g.out))) rfl ?_
        obtain ⟨r1, r2⟩ := ret85 h7g.out h7b.out q3 T7m.out (fun h => by omega)
        exact ⟨_, rfl, by rw [hfin.out]; exact r1.mono (fun b _ hb => Nat.le_trans hw2 hb), r2⟩
      · obtain ⟨hl1, har⟩ := ft2 rfl
        have har2 : (0 ≤ kmn ∧ kmn ≤ 64) ∧ (kmx = -1 ∨ kmn ≤ kmx ∧ kmx ≤ 64) := by simpa [arT] using har
        obtain ⟨mn, rfl⟩ : ∃ mn : Nat, kmn = (mn : Int) := ⟨kmn.toNat, by omega⟩
        obtain ⟨p, hp⟩ : ∃ p, (ptF kids)[0]? = some p := ⟨_, List.getElem?_eq_getElem (by omega)⟩
        have hfin : Hid (ptT (⟨4, ks, (mn : Int), kmx⟩, kids) = repeated p (mn : Int) kmx) := by
          show _ = _
          simp [ptT, ptN]
          rw [← List.headD_eq_head?_getD, head_some hp]
        have e1 : (ptF kids).length = 1 := by omega
        have hnp : 1 ≤ 1 := Nat.le_refl 1
        rw [e1] at ow
        obtain ⟨g, c, b, tv, o, t, l, hlv, hgo, hpv, hld⟩ := part_at0 ow hnp pk2 p hp
        have hgb := (own85_lt ow hgo)
        subst hlv
        have hbp := ptF_bd kids p (List.mem_of_getElem? hp)
        have h2g := H.out.get 0 rfl
        have h1g := H.out.get 1 rfl
        have hgne : g1 ≠ g2 := fun e => by have := H.out.nd; simp [e] at this
        have hq3 : Hid (∀ W, But (fun k => k = g2) wr W → (loadVar 85 ⟨g, 0, none⟩).run Tryz.prog W = .ok (pV b tv o t l) W ∧ (loadVar 3 ⟨g1, 6, none⟩).run Tryz.prog W = .ok (.int .i64 (mn : Int)) W ∧ (loadVar 3 ⟨g1, 7, none⟩).run Tryz.prog W = .ok (.int .i64 kmx) W) := fun W hb => by
          have hb1 := (hb.block g1 (H.out.lti 1 rfl) hgne).trans h1g
          exact ⟨hld W (hb.block g hgb.2 (by omega)), ld3 (cell_row hb1 6 rfl), ld3 (cell_row hb1 7 rfl)⟩
        have hcl : Hid (Calls Tryz.prog 79 #[pV b tv o t l, .int .i64 (mn : Int), .int .i64 kmx] wr.drew fun e w' => ∃ z, e = .returned z ∧ PaV w' (fun b => w2.heap.size ≤ b) z (repeated p (mn : Int) kmx) ∧ Below wr.drew.heap.size wr.drew w') := (repeated_any p hbp _ _ mn kmx (by omega) wr.drew (PaV.kept (w' := wr.drew) hpv (fun b _ _ => rfl)) owlt).mono (fun e w' ⟨y, he, h1, h2⟩ => ⟨y, he, hmono h1, h2⟩)
        have h2gh := hide h2g
        have hws0 := H.out.below
        clear R pk pk2 ow hld hpv h2g h1g
        go_wp2_with (first | ((with_reducible refine at_load 3 ?_); refine wl_ld3 1 0 H.out (v := .int .i64 4) rfl rfl rfl ?_))
        refine reg35_13 wr g1 g2 g 1 c hnp _ (mn : Int) kmx (repeated p (mn : Int) kmx) (fun b => w2.heap.size ≤ b) h2gh.out hq3.out hcl.out _ _ _ _ _ _ _ _ _ _ _ _ _ _ _ _ _ _ _ _ _ _ _ _ _ _ _ _ _ _ _ _ _ _ _ _ _ _ _ _ (fun X32 X34 X36 bb tv o t l w7 h7g T7 B7 hto hlo => ?_)
        have h7gh := hide h7g
        have T7m := hide T7
        have h7b := hide (hws0.trans (B7.mono hws0.size))
        clear h7g T7 B7
        go_wp2
        refine bodyPost_ret (results_cell0 rfl _ _ _ _ rfl (load85 (setRow_heap _ _ _ _ 85 (0, 0) h7gh.out))) rfl ?_
        obtain ⟨r1, r2⟩ := ret85 h7gh.out h7b.out q3 T7m.out (fun h => by omega)
        exact ⟨_, rfl, by rw [hfin.out]; exact r1.mono (fun b _ hb => Nat.le_trans hw2 hb), r2⟩
end Go.Proofs.YtnffbmipllhjdaaGreatDoor.G

namespace Go.Proofs.YtnffbmipllhjdaaGreatDoor.G
open Go.RowKit Go.Shelf
set_option linter.unusedVariables false
set_option linter.unusedSimpArgs false
attribute [local go_sem] Oper.semAt_some

theorem results_ct {fn : Func} {p q : Tmp} {t1 : TypeId} (h : fn.results = #[.cell p t1, .tmp q]) (tmps : Array Value) (w : World) (g1 : Nat) (x : Value)
    (hp : tmps.getD p undef = .pointer (some ⟨g1, 0, none⟩)) (hl : (loadVar t1 ⟨g1, 0, none⟩).run Tryz.prog w = .ok x w) :
    (results fn tmps).run Tryz.prog w = .ok (.tuple #[x, tmps.getD q undef]) w := by
  have hp' : tmps[p]?.getD undef = .pointer (some ⟨g1, 0, none⟩) := by simpa using hp
  simp [results, h, hp', asAddr, hl]
set_option maxHeartbeats 4000000 in
set_option maxRecDepth 100000 in
theorem from_any (t : Tr) (P : Nat → Prop) (x : Value) (w : World) (T : TrV w P x t) (hf : fitT t) (ho : okT t) (hsz : szT t ≤ 99) (hdp : dpT t ≤ 128) :
    Calls Tryz.prog 10 #[x] w fun e w' => ∃ z, e = .returned (.tuple #[z, .int .i64 0]) ∧ QyV w' (fun b => w.heap.size ≤ b) z (ptT t).asked ∧ Below w.heap.size w w' := by
  have H := St.start Nope w
  have TH : Hid (TrV w P x t) := T
  have CK := hide (fun (w' : World) (hb : Below w.heap.size w w') => YtnffbmipllhjdaaGreatDoor.check_any t P x w' (TH.out.kept (fun b _ hl => hb.block b hl)) hf (by omega) hdp)
  have PO := hide (fun (w' : World) (hb : Below w.heap.size w w') => partOf_any (szT t) t (Nat.le_refl _) P x w' (TH.out.kept (fun b _ hl => hb.block b hl)) hf ho hsz)
  have AK := hide (fun (w' : World) (B : Nat) (y : Value) (h : PaV w' (fun b => B ≤ b) y (ptT t)) => ask_any (ptT t) (ptT_bd t) (fun b => B ≤ b ∧ b < w'.heap.size) y w' (h.mono (fun b hb hp => ⟨hp, hb⟩)) (fun b h => h.2))
  obtain ⟨va, vn, vc, rfl⟩ := T.val
  clear T hf ho
  go_enter Tryz.func10, Tryz.ntmps10
  go_wp2_with (first | ((with_reducible refine at_box 27 ?_); refine wl_box28 H rfl ?_; clear H; intro g1 w1 H q1 q2) | ((with_reducible refine at_alloc 30 ?_); refine wl_alloc30 H ?_; clear H; intro g2 w2 H q3 q4; have hb2 := H.below) | ((with_reducible refine at_load 27 ?_); refine wl_load28 1 H rfl rfl ?_) | (go_at_call 34; refine (CK.out _ hb2).mono ?_))
  rintro e w3 ⟨rfl, B3⟩
  have H3 := H.call B3 (Nat.le_refl _)
  have hb3 := H3.below
  have hg2 := H.lti 0 rfl
  clear H B3 CK
  go_wp2_with (first | ((with_reducible refine at_load 27 ?_); refine wl_load28 1 H3 rfl rfl ?_) | (go_at_call 35; refine (PO.out _ hb3).mono ?_))
  rintro e w4 ⟨y, rfl, T4, B4⟩
  have H4 := H3.call B4 (Nat.le_refl _)
  have AK4 := hide (AK.out w4 _ y T4)
  have s34 := B4.size
  have hg23 : g2 < w3.heap.size := H3.lti 0 rfl
  clear H3 B4 PO AK T4
  go_wp2_with (go_at_call 36; refine AK4.out.mono ?_)
  rintro e w5 ⟨z, rfl, hq, B5⟩
  have H5 := H4.call B5 (Nat.le_refl _)
  have h5g := hide (H5.get 0 rfl)
  have h5b := hide H5.below
  have sh := hb3.size
  obtain ⟨xa, xm, xc, rfl⟩ := hq.slice
  have hqh := hide (hq.mono (P' := fun b => w3.heap.size ≤ b) (fun b _ hb => by
    rcases hb with h | h
    · exact h.1
    · omega))
  clear H4 H5 hq B5 AK4
  go_wp2_with (first | ((with_reducible refine at_store 30 ?_); refine wl_storeT 30 (v := qV (ptT t).asked.op (ptT t).asked.tx (.slice xa xm xc)) rfl rfl (store30r h5g.out rfl) ?_))
  refine bodyPost_ret (results_ct rfl _ _ _ _ rfl (load30 (setRow_heap _ _ _ _ 30 (0, 0) h5g.out))) rfl ?_
  obtain ⟨r1, r2⟩ := ret30 (w1 := w) h5g.out h5b.out q3 hqh.out (fun h => by omega)
  exact ⟨_, rfl, r1.mono (fun b _ hb => by have h : w3.heap.size ≤ b := hb; show w.heap.size ≤ b; omega), r2⟩
set_option maxHeartbeats 4000000 in
set_option maxRecDepth 100000 in
theorem text_any (q : Qy) (hsz : q.sz ≤ 4096) (P : Nat → Prop) (x : Value) (w : World) (T : QyV w P x q) :
    Calls Tryz.prog 19 #[x] w fun e w' => ∃ t : Tx, e = .returned (encStr t) ∧ ((chkQ q ∧ t = q.tell) ∨ (¬ chkQ q ∧ t = [])) ∧ Below w.heap.size w w' := by
  have H := St.start Nope w
  have TH : Hid (QyV w P x q) := T
  have CK := hide (fun (w' : World) (hb : Below w.heap.size w w') => check_any q P x w' (TH.out.kept (fun b _ hl => hb.block b hl)) hsz)
  obtain ⟨va, m0, c0, rfl⟩ := T.slice
  clear T
  go_enter Tryz.func19, Tryz.ntmps19
  go_wp2_with (first | ((with_reducible refine at_box 30 ?_); refine wl_box30 H rfl ?_; clear H; intro g1 w1 H q1 q2; have hb1 := H.below) | ((with_reducible refine at_load 30 ?_); refine wl_load30 0 H rfl rfl ?_) | (go_at_call 17; refine (CK.out _ hb1).mono ?_))
  rintro e w2 ⟨r, rfl, hr, B2⟩
  have H2 := H.call B2 (Nat.le_refl _)
  have hb2 := H2.below
  clear H CK B2
  rcases hr with ⟨hyes, rfl⟩ | ⟨hbad, rfl⟩
  · have TO := hide (told_any q P (qV q.op q.tx (.slice va m0 c0)) w2 (TH.out.kept (fun b _ hl => hb2.block b hl)) (by have := tell_sz (chk_ok hyes); omega))
    replace hyes := hide hyes
    go_wp2_with (first | ((with_reducible refine at_load 30 ?_); refine wl_load30 0 H2 rfl rfl ?_) | (go_at_call 49; refine TO.out.mono ?_))
    rintro e w3 ⟨rfl, B3⟩
    have b3 := hide (hb2.trans (B3.mono hb2.size))
    clear B3 TO
    go_wp2
    go_ret
    exact ⟨_, rfl, .inl ⟨hyes.out, rfl⟩, b3.out⟩
  · replace hbad := hide hbad
    have b2 := hide hb2
    clear H2 hb2
    go_wp2
    go_ret
    exact ⟨[], rfl, .inr ⟨hbad.out, rfl⟩, b2.out⟩
end Go.Proofs.YtnffbmipllhjdaaGreatDoor.G
