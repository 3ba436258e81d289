/-
  The walk of PostIndexes (written by a generator: wip/drafts/Ythkfbdcocnhebaa.mkIxV.py.txt).
-/
import Derived.Test.YthkfbdcocnhebaaIxW
namespace Go.Proofs.Ythkfbdcocnhebaa
open Go.RowKit Go.Maps Go.WideMaps
set_option linter.unusedVariables false
set_option linter.unusedSimpArgs false

theorem same_eq (w : World) (a a' : Option Addr) (n n' c c' : Nat) (l : List Int) (h : HasU w a n c l) (h' : HasU w a' n' c' l) (hs : n ≤ 1000000000) :
    Calls Try.prog 14 #[.slice a n c, .slice a' n' c'] w fun e w' => e = .returned (.bool true) ∧ Below w.heap.size w w' := by
  have := same_any w a a' n n' c c' l l h h' hs
  simpa using this
theorem texts_eq (w : World) (a a' : Option Addr) (n n' c c' : Nat) (l : List Str) (h : HasT w a n c l) (h' : HasT w a' n' c' l) (hs : n ≤ 1000000000) :
    Calls Try.prog 35 #[.slice a n c, .slice a' n' c'] w fun e w' => e = .returned (.bool true) ∧ Below w.heap.size w w' := by
  have := texts_any w a a' n n' c c' l l h h' hs
  simpa using this
theorem size2_any (w : World) (p b n : Nat) (D : DataW Value) (T : Nat → Prop) (E : List Ent) (h : Ix w p b n D T E) (hf : Fine E 1000 10000) (hs : tot2 E ≤ 1000000000) :
    Calls Try.prog 37 #[.pointer (some ⟨p, 0, none⟩)] w fun e w' => e = .returned (.int .i64 ((tot2 E : Nat) : Int)) ∧ Below w.heap.size w w' := size_any w p b n D T E h hf hs
theorem owns_below {w w' : World} {base : Nat} {e : TypeId} {z n : Nat} {v : Value} {xs : List Value} (h : w.ownsRow base e z v n xs) (hb : Below w.heap.size w w') : w'.ownsRow base e z v n xs :=
  h.kept (row := none) ⟨hb.os, hb.tape, hb.output, hb.size, fun k hk _ => hb.block k hk⟩ (by cases v.ownBlock <;> simp)
set_option maxHeartbeats 8000000 in
set_option maxRecDepth 100000 in
theorem indexesW (a0 : Option Addr) (len0 cap0 : Nat) (A : Nat → ActP) (key : ByteArray) (w : World) (H0 : HasA w a0 len0 cap0 A) (H1 : key.data.toList.length ≤ maxLen) :
    Calls Try.prog 5 #[.slice a0 len0 cap0, .string key] w fun e w' => e = .returned (.bool true) ∧ Below w.heap.size w w' := by
  have hkey : Hid (key.size ≤ maxLen) := by
    rw [Array.length_toList] at H1; exact H1
  have i0 : (len0 : Int) ≤ 9223372036854775807 := by have := H0.le; have := H0.capb; unfold maxLen at this; omega
  replace H0 := hide H0
  clear H1
  go_enter Try.func5, Try.ntmps5
  go_wp2_with fail
  refine (new_any w).mono ?_
  rintro e w1 ⟨p, b, rfl, hp, hm, hB, h1, h2⟩
  have BB := hide (both_made hp hm hB h1 h2)
  obtain ⟨wz, hwz⟩ : ∃ wz, w1.alloc (.cells #[.slice none 0 0] 50) = wz := ⟨_, rfl⟩
  rw [hwz] at BB
  replace hwz := hide hwz
  obtain ⟨g, hg⟩ : ∃ g, w1.heap.size = g := ⟨_, rfl⟩
  rw [hg] at BB
  replace hg := hide hg
  clear hp hm hB h1 h2
  go_wp2_with fail
  rw [hwz.out, hg.out]
  go_loopw [7] (fun vi wr => ∃ (k : Nat) (D : DataW Value) (T : Nat → Prop) (E : List Ent), k ≤ len0 ∧ k ≤ 60 ∧ vi = .int .i64 (k : Int) ∧ Hid (Both wr p b g k D T E w)) (fun vi _ => 60 - (intOf vi).toNat)
  case atStart => exact ⟨0, _, _, _, Nat.zero_le _, Nat.zero_le _, rfl, BB⟩
  case round =>
    obtain ⟨k, D, T, E, hk, hk6, rfl, hb⟩ := hrel
    by_cases hlt : k < len0
    · by_cases h60 : k < 60
      · have i1 : (k : Int) < (len0 : Int) := by omega
        have i2 : (k : Int) < 60 := by omega
        obtain ⟨bb, off, rfl, hbb, hcell⟩ := H0.out.cells (by omega)
        obtain ⟨⟨c0, c1, c2⟩, hA⟩ := hcell k hlt
        have d0 := (hb.out.bel.cell (p := ⟨bb, off + k * 3, none⟩) hbb).trans c0
        have d1 := (hb.out.bel.cell (p := ⟨bb, off + k * 3 + 1, none⟩) hbb).trans c1
        have d2 := (hb.out.bel.cell (p := ⟨bb, off + k * 3 + 2, none⟩) hbb).trans c2
        clear c0 c1 c2 hcell
        generalize A k = ac at *
        obtain ⟨dO, ak, an⟩ := ac
        have hAk := hide hA.k
        have hAn := hide hA.n
        simp only at d0 d1 d2
        obtain ⟨m, hm5, AM⟩ := among_ex dO 5 5 rfl hA.d (by omega) (by omega)
        clear hA
        have hnew := heap_alloc_new wr (.cells #[.int .i64 dO, .string ak, .int .u64 an] 52)
        have e0 := cell_row hnew 0 (v := .int .i64 dO) rfl
        have e1 := cell_row hnew 1 (v := .string ak) rfl
        have e2 := cell_row hnew 2 (v := .int .u64 an) rfl
        have hwb : Hid (Below wr.heap.size wr (wr.alloc (.cells #[.int .i64 dO, .string ak, .int .u64 an] 52))) := (Below.refl _ _).alloc (Nat.le_refl _) _
        obtain ⟨wa, hwa⟩ : ∃ wa, wr.alloc (.cells #[.int .i64 dO, .string ak, .int .u64 an] 52) = wa := ⟨_, rfl⟩
        rw [hwa] at e0 e1 e2 hwb hnew
        have BA := hide (hb.out.below hwb.out)
        have hnT : Hid (¬ T wr.heap.size) := fun ht => by have := hb.out.ix.lp.tl _ ht; omega
        have hal : Hid (wr.heap.size < wa.heap.size) := (Array.getElem?_eq_some_iff.1 hnew).1
        obtain ⟨ab, hab⟩ : ∃ ab, wr.heap.size = ab := ⟨_, rfl⟩
        rw [hab] at e0 e1 e2 hnT hal
        replace hwa := hide hwa
        replace hab := hide hab
        clear hnew hwb
        replace AM := hide AM
        by_cases h3 : m < 3
        · have i3 : (m : Int) < 3 := by omega
          have P := hide (put_any wa p b k D T E ak an hAk.out (by omega) BA.out.ix (BA.out.fine.mono (by omega) (by omega)) hAn.out)
          go_wp2_with fail
          rw [hwa.out, hab.out]
          refine (AM.out _).mono ?_
          rintro e w2 ⟨rfl, rfl⟩
          go_wp2_with fail
          refine P.out.mono ?_
          rintro e w2 ⟨rfl, D2, T2, X2, b1, hT⟩
          have R2 := hide (BA.out.mid b1 hT)
          have e3 : w2.cell? ⟨ab, 1, none⟩ = some (.string ak) := (World.cell?_of_block (b1.block ab hal.out hnT.out)).trans e1
          have e4 : w2.cell? ⟨ab, 2, none⟩ = some (.int .u64 an) := (World.cell?_of_block (b1.block ab hal.out hnT.out)).trans e2
          have Q := hide (rput_any T2 w2 X2.lp.tl g E ak an R2.out (BA.out.fine.mono (by omega) (by omega)) hAn.out)
          obtain ⟨E2, hE2⟩ : ∃ E2, st E ak (addL (lk E ak) an) = E2 := ⟨_, rfl⟩
          have hF2 := hide (fine_add BA.out.fine ak an)
          rw [hE2] at X2 Q hF2
          replace hE2 := hide hE2
          replace X2 := hide X2
          replace b1 := hide b1
          replace hT := hide hT
          go_wp2_with fail
          refine Q.out.mono ?_
          rintro e w3 ⟨rfl, R3, b3⟩
          have BS := hide (BA.out.step X2.out b1.out hT.out R3 b3 hF2.out)
          clear R3 b3 Q P R2 e0 e1 e2 e3 e4 d0 d1 d2
          obtain ⟨_, ao, n, c, hgc, HE⟩ := BS.out.rx
          have hgl := (Array.getElem?_eq_some_iff.1 hgc).1
          have cg : Hid (∀ W, Below w3.heap.size w3 W → W.cell? ⟨g, 0, none⟩ = some (.slice ao n c)) := fun W hW => (hW.cell (p := ⟨g, 0, none⟩) hgl).trans (cell_row hgc 0 rfl)
          have hEn := hide HE.hlen
          have hn60 : (n : Int) ≤ 61 := by have := BS.out.fine.len; rw [hEn.out] at this; omega
          have htot : Hid (tot2 E2 ≤ 10000) := by
            have h1 := tot2_le BS.out.fine
            have h2 : (k + 1) * (k + 1) ≤ 61 * 61 := Nat.mul_le_mul (by omega) (by omega)
            show _ ≤ _
            omega
          replace HE := hide HE
          clear hgc hgl
          have O := ownsT_empty w3
          have B0 : Hid (Below w3.heap.size w3 (w3.alloc (.cells #[] 9))) := (Below.refl _ _).alloc (Nat.le_refl _) _
          obtain ⟨ws, hws⟩ : ∃ ws, w3.alloc (.cells #[] 9) = ws := ⟨_, rfl⟩
          rw [hws] at O B0
          replace hws := hide hws
          replace O := hide O
          go_wp2_with fail
          rw [hws.out]
          go_loopw [9, 10, 11] (fun v9 v10 v11 wq => ∃ (j : Nat) (q : Option Addr) (cq s : Nat), j ≤ n ∧ v9 = .slice q j cq ∧ v10 = .int .i64 (s : Int) ∧ v11 = .int .i64 (j : Int) ∧ Hid (tot2 (E2.take j) = s) ∧ Hid (wq.ownsRow w3.heap.size 9 1 (.slice q j cq) j (((E2.take j).map Prod.fst).map Value.string)) ∧ Hid (Below w3.heap.size w3 wq)) (fun _ _ v11 _ => n - (intOf v11).toNat)
          case atStart => exact ⟨0, _, _, 0, Nat.zero_le _, rfl, rfl, rfl, (by simp [tot2] : tot2 (E2.take 0) = 0), hide (by simpa using O.out), B0⟩
          case round =>
            obtain ⟨j, q, cq, s, hj, rfl, rfl, rfl, hs, hO, hB⟩ := hrel
            have hs1 : Hid (s ≤ 10000) := by rw [← hs.out]; exact Nat.le_trans (tot2_take_le E2 j) htot.out
            have i4 : (s : Int) ≤ 10000 := by have := hs1.out; omega
            have cgq := cg.out wr hB.out
            have hsz := hB.out.size
            by_cases hjn : j < n
            · have i5 : (j : Int) < (n : Int) := by omega
              have i6 : (0 : Int) ≤ (j : Int) := by omega
              obtain ⟨be, oe, x, mx, kx, rfl, hbe, g1, g2, ⟨HU, _⟩, _⟩ := HE.out.cells j hjn
              have hjl : j < E2.length := by rw [hEn.out]; exact hjn
              have g1W : Hid (∀ W, Below w3.heap.size w3 W → W.cell? ⟨be, oe + j * 2, none⟩ = some (.string (E2.getD j dE).1)) := fun W hW => (hW.cell (p := ⟨be, oe + j * 2, none⟩) hbe).trans g1
              have g2W : Hid (∀ W, Below w3.heap.size w3 W → W.cell? ⟨be, oe + j * 2 + 1, none⟩ = some (.slice x mx kx)) := fun W hW => (hW.cell (p := ⟨be, oe + j * 2 + 1, none⟩) hbe).trans g2
              have hmem : E2.getD j dE ∈ E2 := by
                rw [show E2.getD j dE = E2[j] by simp [List.getD, List.getElem?_eq_getElem hjl]]
                exact List.getElem_mem _
              have hlk := lk_of_mem BS.out.fine.ups hmem
              have hks := hide (BS.out.ix.ks _ hmem)
              have hmx := BS.out.fine.each _ hmem
              have htt := hide (tot2_take hjl)
              have hts := hide (take_succE hjl)
              clear g1 g2 hmem hjl
              generalize E2.getD j dE = t at *
              obtain ⟨tk, tl⟩ := t
              simp only at hlk hmx HU
              have hml := HU.hlen
              rw [hml] at hmx
              have i7 : (mx : Int) ≤ 61 := by omega
              have LS : Hid (∀ W, Below w3.heap.size w3 W → Calls Try.prog 34 #[.pointer (some ⟨p, 0, none⟩), .string tk] W (RetU W tl)) := fun W hW => by
                have := list_any W p b (k + 1) D2 T2 E2 tk hks.out (BS.out.ix.below hW) (by rw [hlk, hml]; omega)
                rwa [hlk] at this
              have HUW : Hid (∀ W, Below w3.heap.size w3 W → HasU W x mx kx tl) := fun W hW => HU.kept hW (Nat.le_refl _)
              rw [hs.out] at htt
              simp only at htt
              rw [hml] at htt
              have hs2 : Hid (s + mx ≤ 10000) := by have := htt.out; have := tot2_take_le E2 (j + 1); have := htot.out; show _ ≤ _; omega
              have i8 : (s : Int) + (mx : Int) ≤ 10000 := by have := hs2.out; omega
              obtain ⟨s2, hss⟩ : ∃ s2, s + mx = s2 := ⟨_, rfl⟩
              have i9 : (s : Int) + (mx : Int) = (s2 : Int) := by omega
              have i10 : (s2 : Int) ≤ 10000 := by omega
              rw [hss] at htt
              replace hss := hide hss
              replace hlk := hide hlk
              replace hml := hide hml
              clear HU
              have g1q := g1W.out wr hB.out
              have cAt : (wr.alloc (.cells #[.string tk] 9)).cell? ⟨wr.heap.size, 0, none⟩ = some (.string tk) := cell_row (heap_alloc_new wr _) 0 rfl
              have hOt : Hid ((wr.alloc (.cells #[.string tk] 9)).ownsRow w3.heap.size 9 1 (.slice q j cq) j (((E2.take j).map Prod.fst).map Value.string)) := hO.out.alloc _
              go_wp2_with (first | (at_builtin; refine wpList_pushT rfl (.tmp 71) (.tmp 80) rfl w3.heap.size _ j _ rfl hOt.out wr.heap.size tk rfl cAt (by omega) (by simp; omega) ?_; intro q2 cap2 w6 hO6 hg6; have Bw6 : Hid (Below w3.heap.size w3 w6) := (hB.out.alloc (by omega) _).grown hg6 (by simp; omega) (fun k hk => (hOt.out.lt k hk).1); have hO7 : Hid (w6.ownsRow w3.heap.size 9 1 (.slice (some ⟨q2, 0, none⟩) (j + 1) cap2) (j + 1) (((E2.take (j + 1)).map Prod.fst).map Value.string)) := (by rw [hts.out, List.map_append]; exact hO6); clear hg6 hO6 hOt cAt; have cg6 := cg.out w6 Bw6.out; have g26 := g2W.out w6 Bw6.out; have g16 := g1W.out w6 Bw6.out; have Bd6 : Hid (Below w3.heap.size w3 w6.drew) := below_drew Bw6.out; have cgd := cg.out w6.drew Bd6.out; have g1d := g1W.out w6.drew Bd6.out; have g2d := g2W.out w6.drew Bd6.out; have LSd := hide (LS.out w6.drew Bd6.out); have zw6 := Bd6.out.size))
              go_region_held3 (fun w' => (w'.cell? ⟨g, 0, none⟩ = some (.slice (some ⟨be, oe, none⟩) n c) ∧ w'.cell? ⟨be, oe + j * 2, none⟩ = some (.string tk)) ∧ w'.cell? ⟨be, oe + j * 2 + 1, none⟩ = some (.slice x mx kx)) (first | (exact ⟨⟨cgd, g1d⟩, g2d⟩) | (exact E7)) (first
                | (go_at_call 34; refine LSd.out.mono ?_; rintro e w7 ⟨a7, n7, c7, rfl, H7, B7, q7⟩; have hn7 : n7 = mx := (by rw [← H7.hlen]; exact hml.out); subst hn7; have Bw7 : Hid (Below w3.heap.size w3 w7) := Bd6.out.trans (B7.mono zw6); have E7 : (w7.cell? ⟨g, 0, none⟩ = some (.slice (some ⟨be, oe, none⟩) n c) ∧ w7.cell? ⟨be, oe + j * 2, none⟩ = some (.string tk)) ∧ w7.cell? ⟨be, oe + j * 2 + 1, none⟩ = some (.slice x n7 kx) := ⟨⟨cg.out w7 Bw7.out, g1W.out w7 Bw7.out⟩, g2W.out w7 Bw7.out⟩; have O7 := hide (owns_below (owns_below (w := w6) (w' := w6.drew) hO7.out (below_drew (Below.refl _ _))) B7); have SM := hide (same_eq w7 a7 x n7 n7 c7 kx tl H7 (HUW.out w7 Bw7.out) (by omega)))
                | (go_at_call 14; refine SM.out.mono ?_; rintro e w8 ⟨rfl, B8⟩; have Bw8 : Hid (Below w3.heap.size w3 w8) := Bw7.out.trans (B8.mono Bw7.out.size); have O8 := hide (owns_below O7.out B8); have E7 : (w8.cell? ⟨g, 0, none⟩ = some (.slice (some ⟨be, oe, none⟩) n c) ∧ w8.cell? ⟨be, oe + j * 2, none⟩ = some (.string tk)) ∧ w8.cell? ⟨be, oe + j * 2 + 1, none⟩ = some (.slice x n7 kx) := ⟨⟨cg.out w8 Bw8.out, g1W.out w8 Bw8.out⟩, g2W.out w8 Bw8.out⟩))
              all_goals exact (by
                clear E7
                go_wp2_with fail
                go_roundw
                case rel => exact ⟨j + 1, some ⟨q2, 0, none⟩, cap2, s2, by omega, rfl, rfl, by go_num, htt, O8, Bw8⟩
                case measure => simp [intOf]; omega)
            · obtain rfl : j = n := by omega
              have i5 : ¬ (j : Int) < (j : Int) := by omega
              have etk : E2.take j = E2 := List.take_of_length_le (by rw [hEn.out]; exact Nat.le_refl _)
              have HT := hasT_of_owns hO.out
              have hs2 := hs.out
              rw [etk] at HT hs2
              have KS := hide (keys_any wr p b (k + 1) D2 T2 E2 (BS.out.ix.below hB.out) (BS.out.fine.mono (by omega) (by omega)) (by omega))
              rw [hEn.out] at KS
              replace HT := hide HT
              replace hs2 := hide hs2
              clear etk hs hO
              go_wp2_with fail
              refine KS.out.mono ?_
              rintro e w4 ⟨a4, c4, rfl, H4, B4⟩
              have Bw4 : Hid (Below w3.heap.size w3 w4) := hB.out.trans (B4.mono hsz)
              have TX := hide (texts_eq w4 a4 q j j c4 cq (E2.map Prod.fst) H4 (HT.out.kept B4 (Nat.le_refl _)) (by omega))
              clear H4 B4 KS HT
              go_wp2_with fail
              refine TX.out.mono ?_
              rintro e w5 ⟨rfl, B5⟩
              have Bw5 : Hid (Below w3.heap.size w3 w5) := Bw4.out.trans (B5.mono Bw4.out.size)
              have SZ := size2_any w5 p b (k + 1) D2 T2 E2 (BS.out.ix.below Bw5.out) (BS.out.fine.mono (by omega) (by omega)) (by have := htot.out; omega)
              rw [hs2.out] at SZ
              replace SZ := hide SZ
              clear B5 TX
              go_wp2_with fail
              refine SZ.out.mono ?_
              rintro e w6 ⟨rfl, B6⟩
              have Bw6 : Hid (Below w3.heap.size w3 w6) := Bw5.out.trans (B6.mono Bw5.out.size)
              have hll := BS.out.fine.lk_len key
              have LA := hide (list_any w6 p b (k + 1) D2 T2 E2 key hkey.out (BS.out.ix.below Bw6.out) (by omega))
              replace hll := hide hll
              clear B6 SZ
              go_wp2_with fail
              refine LA.out.mono ?_
              rintro e w7 ⟨a7, n7, c7, rfl, H7, B7, _⟩
              have Bw7 : Hid (Below w3.heap.size w3 w7) := Bw6.out.trans (B7.mono Bw6.out.size)
              have hn7 : Hid (n7 ≤ 1000) := by have := H7.hlen; have := hll.out; show _ ≤ _; omega
              have RL := hide (rlist_any T2 w7 g E2 key (BS.out.rx.kept Bw7.out) (by rw [hEn.out]; omega) (fun e he => by have := BS.out.fine.each e he; omega))
              replace H7 := hide H7
              clear B7 LA
              go_wp2_with fail
              refine RL.out.mono ?_
              rintro e w8 ⟨a8, n8, c8, rfl, H8, B8, _⟩
              have Bw8 : Hid (Below w3.heap.size w3 w8) := Bw7.out.trans (B8.mono Bw7.out.size)
              have SM := hide (same_eq w8 a7 a8 n7 n8 c7 c8 (lk E2 key) (H7.out.kept B8 (Nat.le_refl _)) H8 (by have := hn7.out; omega))
              clear H8 B8 RL
              go_wp2_with fail
              refine SM.out.mono ?_
              rintro e w9 ⟨rfl, B9⟩
              have Bw9 := hide (BS.out.below (Bw8.out.trans (B9.mono Bw8.out.size)))
              clear B9 SM
              go_wp2_with fail
              go_roundw
              case rel => exact ⟨k + 1, D2, T2, E2, by omega, by omega, by go_num, Bw9⟩
              case measure => simp [intOf]; omega
        · have i3 : ¬ (m : Int) < 3 := by omega
          have P := hide (take_any wa p b k D T E ak an hAk.out (by omega) BA.out.ix (BA.out.fine.mono (by omega) (by omega)))
          go_wp2_with fail
          rw [hwa.out, hab.out]
          refine (AM.out _).mono ?_
          rintro e w2 ⟨rfl, rfl⟩
          go_wp2_with fail
          refine P.out.mono ?_
          rintro e w2 ⟨rfl, D2, T2, X2, b1, hT⟩
          have R2 := hide (BA.out.mid b1 hT)
          have e3 : w2.cell? ⟨ab, 1, none⟩ = some (.string ak) := (World.cell?_of_block (b1.block ab hal.out hnT.out)).trans e1
          have e4 : w2.cell? ⟨ab, 2, none⟩ = some (.int .u64 an) := (World.cell?_of_block (b1.block ab hal.out hnT.out)).trans e2
          have Q := hide (rtake_any T2 w2 X2.lp.tl g E ak an R2.out (BA.out.fine.mono (by omega) (by omega)) hAn.out)
          obtain ⟨E2, hE2⟩ : ∃ E2, st E ak (dropL (lk E ak) an) = E2 := ⟨_, rfl⟩
          have hF2 := hide (fine_drop BA.out.fine ak an)
          rw [hE2] at X2 Q hF2
          replace hE2 := hide hE2
          replace X2 := hide X2
          replace b1 := hide b1
          replace hT := hide hT
          go_wp2_with fail
          refine Q.out.mono ?_
          rintro e w3 ⟨rfl, R3, b3⟩
          have BS := hide (BA.out.step X2.out b1.out hT.out R3 b3 hF2.out)
          clear R3 b3 Q P R2 e0 e1 e2 e3 e4 d0 d1 d2
          obtain ⟨_, ao, n, c, hgc, HE⟩ := BS.out.rx
          have hgl := (Array.getElem?_eq_some_iff.1 hgc).1
          have cg : Hid (∀ W, Below w3.heap.size w3 W → W.cell? ⟨g, 0, none⟩ = some (.slice ao n c)) := fun W hW => (hW.cell (p := ⟨g, 0, none⟩) hgl).trans (cell_row hgc 0 rfl)
          have hEn := hide HE.hlen
          have hn60 : (n : Int) ≤ 61 := by have := BS.out.fine.len; rw [hEn.out] at this; omega
          have htot : Hid (tot2 E2 ≤ 10000) := by
            have h1 := tot2_le BS.out.fine
            have h2 : (k + 1) * (k + 1) ≤ 61 * 61 := Nat.mul_le_mul (by omega) (by omega)
            show _ ≤ _
            omega
          replace HE := hide HE
          clear hgc hgl
          have O := ownsT_empty w3
          have B0 : Hid (Below w3.heap.size w3 (w3.alloc (.cells #[] 9))) := (Below.refl _ _).alloc (Nat.le_refl _) _
          obtain ⟨ws, hws⟩ : ∃ ws, w3.alloc (.cells #[] 9) = ws := ⟨_, rfl⟩
          rw [hws] at O B0
          replace hws := hide hws
          replace O := hide O
          go_wp2_with fail
          rw [hws.out]
          go_loopw [9, 10, 11] (fun v9 v10 v11 wq => ∃ (j : Nat) (q : Option Addr) (cq s : Nat), j ≤ n ∧ v9 = .slice q j cq ∧ v10 = .int .i64 (s : Int) ∧ v11 = .int .i64 (j : Int) ∧ Hid (tot2 (E2.take j) = s) ∧ Hid (wq.ownsRow w3.heap.size 9 1 (.slice q j cq) j (((E2.take j).map Prod.fst).map Value.string)) ∧ Hid (Below w3.heap.size w3 wq)) (fun _ _ v11 _ => n - (intOf v11).toNat)
          case atStart => exact ⟨0, _, _, 0, Nat.zero_le _, rfl, rfl, rfl, (by simp [tot2] : tot2 (E2.take 0) = 0), hide (by simpa using O.out), B0⟩
          case round =>
            obtain ⟨j, q, cq, s, hj, rfl, rfl, rfl, hs, hO, hB⟩ := hrel
            have hs1 : Hid (s ≤ 10000) := by rw [← hs.out]; exact Nat.le_trans (tot2_take_le E2 j) htot.out
            have i4 : (s : Int) ≤ 10000 := by have := hs1.out; omega
            have cgq := cg.out wr hB.out
            have hsz := hB.out.size
            by_cases hjn : j < n
            · have i5 : (j : Int) < (n : Int) := by omega
              have i6 : (0 : Int) ≤ (j : Int) := by omega
              obtain ⟨be, oe, x, mx, kx, rfl, hbe, g1, g2, ⟨HU, _⟩, _⟩ := HE.out.cells j hjn
              have hjl : j < E2.length := by rw [hEn.out]; exact hjn
              have g1W : Hid (∀ W, Below w3.heap.size w3 W → W.cell? ⟨be, oe + j * 2, none⟩ = some (.string (E2.getD j dE).1)) := fun W hW => (hW.cell (p := ⟨be, oe + j * 2, none⟩) hbe).trans g1
              have g2W : Hid (∀ W, Below w3.heap.size w3 W → W.cell? ⟨be, oe + j * 2 + 1, none⟩ = some (.slice x mx kx)) := fun W hW => (hW.cell (p := ⟨be, oe + j * 2 + 1, none⟩) hbe).trans g2
              have hmem : E2.getD j dE ∈ E2 := by
                rw [show E2.getD j dE = E2[j] by simp [List.getD, List.getElem?_eq_getElem hjl]]
                exact List.getElem_mem _
              have hlk := lk_of_mem BS.out.fine.ups hmem
              have hks := hide (BS.out.ix.ks _ hmem)
              have hmx := BS.out.fine.each _ hmem
              have htt := hide (tot2_take hjl)
              have hts := hide (take_succE hjl)
              clear g1 g2 hmem hjl
              generalize E2.getD j dE = t at *
              obtain ⟨tk, tl⟩ := t
              simp only at hlk hmx HU
              have hml := HU.hlen
              rw [hml] at hmx
              have i7 : (mx : Int) ≤ 61 := by omega
              have LS : Hid (∀ W, Below w3.heap.size w3 W → Calls Try.prog 34 #[.pointer (some ⟨p, 0, none⟩), .string tk] W (RetU W tl)) := fun W hW => by
                have := list_any W p b (k + 1) D2 T2 E2 tk hks.out (BS.out.ix.below hW) (by rw [hlk, hml]; omega)
                rwa [hlk] at this
              have HUW : Hid (∀ W, Below w3.heap.size w3 W → HasU W x mx kx tl) := fun W hW => HU.kept hW (Nat.le_refl _)
              rw [hs.out] at htt
              simp only at htt
              rw [hml] at htt
              have hs2 : Hid (s + mx ≤ 10000) := by have := htt.out; have := tot2_take_le E2 (j + 1); have := htot.out; show _ ≤ _; omega
              have i8 : (s : Int) + (mx : Int) ≤ 10000 := by have := hs2.out; omega
              obtain ⟨s2, hss⟩ : ∃ s2, s + mx = s2 := ⟨_, rfl⟩
              have i9 : (s : Int) + (mx : Int) = (s2 : Int) := by omega
              have i10 : (s2 : Int) ≤ 10000 := by omega
              rw [hss] at htt
              replace hss := hide hss
              replace hlk := hide hlk
              replace hml := hide hml
              clear HU
              have g1q := g1W.out wr hB.out
              have cAt : (wr.alloc (.cells #[.string tk] 9)).cell? ⟨wr.heap.size, 0, none⟩ = some (.string tk) := cell_row (heap_alloc_new wr _) 0 rfl
              have hOt : Hid ((wr.alloc (.cells #[.string tk] 9)).ownsRow w3.heap.size 9 1 (.slice q j cq) j (((E2.take j).map Prod.fst).map Value.string)) := hO.out.alloc _
              go_wp2_with (first | (at_builtin; refine wpList_pushT rfl (.tmp 71) (.tmp 80) rfl w3.heap.size _ j _ rfl hOt.out wr.heap.size tk rfl cAt (by omega) (by simp; omega) ?_; intro q2 cap2 w6 hO6 hg6; have Bw6 : Hid (Below w3.heap.size w3 w6) := (hB.out.alloc (by omega) _).grown hg6 (by simp; omega) (fun k hk => (hOt.out.lt k hk).1); have hO7 : Hid (w6.ownsRow w3.heap.size 9 1 (.slice (some ⟨q2, 0, none⟩) (j + 1) cap2) (j + 1) (((E2.take (j + 1)).map Prod.fst).map Value.string)) := (by rw [hts.out, List.map_append]; exact hO6); clear hg6 hO6 hOt cAt; have cg6 := cg.out w6 Bw6.out; have g26 := g2W.out w6 Bw6.out; have g16 := g1W.out w6 Bw6.out; have Bd6 : Hid (Below w3.heap.size w3 w6.drew) := below_drew Bw6.out; have cgd := cg.out w6.drew Bd6.out; have g1d := g1W.out w6.drew Bd6.out; have g2d := g2W.out w6.drew Bd6.out; have LSd := hide (LS.out w6.drew Bd6.out); have zw6 := Bd6.out.size))
              go_region_held3 (fun w' => (w'.cell? ⟨g, 0, none⟩ = some (.slice (some ⟨be, oe, none⟩) n c) ∧ w'.cell? ⟨be, oe + j * 2, none⟩ = some (.string tk)) ∧ w'.cell? ⟨be, oe + j * 2 + 1, none⟩ = some (.slice x mx kx)) (first | (exact ⟨⟨cgd, g1d⟩, g2d⟩) | (exact E7)) (first
                | (go_at_call 34; refine LSd.out.mono ?_; rintro e w7 ⟨a7, n7, c7, rfl, H7, B7, q7⟩; have hn7 : n7 = mx := (by rw [← H7.hlen]; exact hml.out); subst hn7; have Bw7 : Hid (Below w3.heap.size w3 w7) := Bd6.out.trans (B7.mono zw6); have E7 : (w7.cell? ⟨g, 0, none⟩ = some (.slice (some ⟨be, oe, none⟩) n c) ∧ w7.cell? ⟨be, oe + j * 2, none⟩ = some (.string tk)) ∧ w7.cell? ⟨be, oe + j * 2 + 1, none⟩ = some (.slice x n7 kx) := ⟨⟨cg.out w7 Bw7.out, g1W.out w7 Bw7.out⟩, g2W.out w7 Bw7.out⟩; have O7 := hide (owns_below (owns_below (w := w6) (w' := w6.drew) hO7.out (below_drew (Below.refl _ _))) B7); have SM := hide (same_eq w7 a7 x n7 n7 c7 kx tl H7 (HUW.out w7 Bw7.out) (by omega)))
                | (go_at_call 14; refine SM.out.mono ?_; rintro e w8 ⟨rfl, B8⟩; have Bw8 : Hid (Below w3.heap.size w3 w8) := Bw7.out.trans (B8.mono Bw7.out.size); have O8 := hide (owns_below O7.out B8); have E7 : (w8.cell? ⟨g, 0, none⟩ = some (.slice (some ⟨be, oe, none⟩) n c) ∧ w8.cell? ⟨be, oe + j * 2, none⟩ = some (.string tk)) ∧ w8.cell? ⟨be, oe + j * 2 + 1, none⟩ = some (.slice x n7 kx) := ⟨⟨cg.out w8 Bw8.out, g1W.out w8 Bw8.out⟩, g2W.out w8 Bw8.out⟩))
              all_goals exact (by
                clear E7
                go_wp2_with fail
                go_roundw
                case rel => exact ⟨j + 1, some ⟨q2, 0, none⟩, cap2, s2, by omega, rfl, rfl, by go_num, htt, O8, Bw8⟩
                case measure => simp [intOf]; omega)
            · obtain rfl : j = n := by omega
              have i5 : ¬ (j : Int) < (j : Int) := by omega
              have etk : E2.take j = E2 := List.take_of_length_le (by rw [hEn.out]; exact Nat.le_refl _)
              have HT := hasT_of_owns hO.out
              have hs2 := hs.out
              rw [etk] at HT hs2
              have KS := hide (keys_any wr p b (k + 1) D2 T2 E2 (BS.out.ix.below hB.out) (BS.out.fine.mono (by omega) (by omega)) (by omega))
              rw [hEn.out] at KS
              replace HT := hide HT
              replace hs2 := hide hs2
              clear etk hs hO
              go_wp2_with fail
              refine KS.out.mono ?_
              rintro e w4 ⟨a4, c4, rfl, H4, B4⟩
              have Bw4 : Hid (Below w3.heap.size w3 w4) := hB.out.trans (B4.mono hsz)
              have TX := hide (texts_eq w4 a4 q j j c4 cq (E2.map Prod.fst) H4 (HT.out.kept B4 (Nat.le_refl _)) (by omega))
              clear H4 B4 KS HT
              go_wp2_with fail
              refine TX.out.mono ?_
              rintro e w5 ⟨rfl, B5⟩
              have Bw5 : Hid (Below w3.heap.size w3 w5) := Bw4.out.trans (B5.mono Bw4.out.size)
              have SZ := size2_any w5 p b (k + 1) D2 T2 E2 (BS.out.ix.below Bw5.out) (BS.out.fine.mono (by omega) (by omega)) (by have := htot.out; omega)
              rw [hs2.out] at SZ
              replace SZ := hide SZ
              clear B5 TX
              go_wp2_with fail
              refine SZ.out.mono ?_
              rintro e w6 ⟨rfl, B6⟩
              have Bw6 : Hid (Below w3.heap.size w3 w6) := Bw5.out.trans (B6.mono Bw5.out.size)
              have hll := BS.out.fine.lk_len key
              have LA := hide (list_any w6 p b (k + 1) D2 T2 E2 key hkey.out (BS.out.ix.below Bw6.out) (by omega))
              replace hll := hide hll
              clear B6 SZ
              go_wp2_with fail
              refine LA.out.mono ?_
              rintro e w7 ⟨a7, n7, c7, rfl, H7, B7, _⟩
              have Bw7 : Hid (Below w3.heap.size w3 w7) := Bw6.out.trans (B7.mono Bw6.out.size)
              have hn7 : Hid (n7 ≤ 1000) := by have := H7.hlen; have := hll.out; show _ ≤ _; omega
              have RL := hide (rlist_any T2 w7 g E2 key (BS.out.rx.kept Bw7.out) (by rw [hEn.out]; omega) (fun e he => by have := BS.out.fine.each e he; omega))
              replace H7 := hide H7
              clear B7 LA
              go_wp2_with fail
              refine RL.out.mono ?_
              rintro e w8 ⟨a8, n8, c8, rfl, H8, B8, _⟩
              have Bw8 : Hid (Below w3.heap.size w3 w8) := Bw7.out.trans (B8.mono Bw7.out.size)
              have SM := hide (same_eq w8 a7 a8 n7 n8 c7 c8 (lk E2 key) (H7.out.kept B8 (Nat.le_refl _)) H8 (by have := hn7.out; omega))
              clear H8 B8 RL
              go_wp2_with fail
              refine SM.out.mono ?_
              rintro e w9 ⟨rfl, B9⟩
              have Bw9 := hide (BS.out.below (Bw8.out.trans (B9.mono Bw8.out.size)))
              clear B9 SM
              go_wp2_with fail
              go_roundw
              case rel => exact ⟨k + 1, D2, T2, E2, by omega, by omega, by go_num, Bw9⟩
              case measure => simp [intOf]; omega
      · obtain rfl : k = 60 := by omega
        have i1 : (60 : Int) < (len0 : Int) := by omega
        have WK := hide (works_any wr)
        have hbb := hide hb.out.bel
        go_wp2_with fail
        refine WK.out.mono ?_
        rintro e w9 ⟨rfl, B9⟩
        replace B9 := hide (hbb.out.trans (B9.mono hbb.out.size))
        go_wp2_with fail
        go_ret
        exact ⟨rfl, B9.out⟩
    · obtain rfl : k = len0 := by omega
      have i1 : ¬ (k : Int) < (k : Int) := by omega
      have WK := hide (works_any wr)
      have hbb := hide hb.out.bel
      go_wp2_with fail
      refine WK.out.mono ?_
      rintro e w9 ⟨rfl, B9⟩
      replace B9 := hide (hbb.out.trans (B9.mono hbb.out.size))
      go_wp2_with fail
      go_ret
      exact ⟨rfl, B9.out⟩
end Go.Proofs.Ythkfbdcocnhebaa
