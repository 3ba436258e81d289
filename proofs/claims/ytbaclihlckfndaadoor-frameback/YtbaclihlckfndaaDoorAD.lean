/-
  The walk of the reference's First: where a right sector begins, its number comes out.
-/
import Derived.Test.YtbaclihlckfndaaDoorAC
namespace Go.Proofs.YtbaclihlckfndaaDoor
open Go.RowKit Go.Shelf
set_option linter.unusedVariables false

/-- Whatever comes out: a right sector that begins there is told by its number. -/
def Firsts (w : World) (l : List Int) (e : Ending) (w' : World) : Prop :=
  ∃ (n : Int) (s f : Value) (er : Int), e = .returned (.tuple #[.int .i64 n, s, f, .int .i64 er]) ∧ (∀ q, Begins l q → er = 0 ∧ n = (q.number : Int)) ∧ Below w.heap.size w w'

theorem results_tmp4 {fn : Func} {a b c d : Tmp} (h : fn.results = #[.tmp a, .tmp b, .tmp c, .tmp d]) (tmps : Array Value) (P : Program) (w : World) :
    (results fn tmps).run P w = .ok (.tuple #[tmps.getD a undef, tmps.getD b undef, tmps.getD c undef, tmps.getD d undef]) w := by
  simp [results, h]
theorem firsts_no {w w' : World} {l : List Int} (h : ∀ q, ¬ Begins l q) {s f : Value} {n er : Int} (hb : Below w.heap.size w w') : Firsts w l (.returned (.tuple #[.int .i64 n, s, f, .int .i64 er])) w' :=
  ⟨n, s, f, er, rfl, fun q hq => (h q hq).elim, hb⟩
theorem num4 (l : List Int) (hl : Byts l) (h : 4 ≤ l.length) : ((numK l 4 : Nat) : Int) = l.getD 0 0 + 256 * l.getD 1 0 + 65536 * l.getD 2 0 + 16777216 * l.getD 3 0 := by
  have h0 := getD_byt hl 0 (by omega)
  have h1 := getD_byt hl 1 (by omega)
  have h2 := getD_byt hl 2 (by omega)
  have h3 := getD_byt hl 3 (by omega)
  simp only [numK, Nat.reduceMul, Nat.reducePow]
  omega
theorem num2 (l : List Int) (hl : Byts l) (h : 6 ≤ l.length) : ((numK (l.drop 4) 2 : Nat) : Int) = l.getD 4 0 + 256 * l.getD 5 0 := by
  have h0 := getD_byt hl 4 (by omega)
  have h1 := getD_byt hl 5 (by omega)
  have e0 : (l.drop 4).getD 0 0 = l.getD 4 0 := by simp [List.getD]
  have e1 : (l.drop 4).getD 1 0 = l.getD 5 0 := by simp [List.getD]
  simp only [numK, Nat.reduceMul, Nat.reducePow, e0, e1]
  omega

set_option maxRecDepth 100000 in
set_option maxHeartbeats 2000000 in
theorem rfirst_any (w : World) (a : Option Addr) (len cap : Nat) (l : List Int) (h : Has w a len cap l) :
    Calls Tryd.prog 19 #[.slice a len cap] w (Firsts w l) := by
  by_cases hs : len < 256
  · have i1 : (len : Int) < 256 := by omega
    have hno : Hid (∀ q, ¬ Begins l q) := fun q hq => by have := begins_len hq; have := h.hlen; omega
    clear h
    go_enter Tryd.func19, Tryd.ntmps19
    go_wp2_with fail
    (try simp only [Exit.inBlock, Exit.then])
    refine bodyPost_ret (results_tmp4 rfl _ _ _) rfl ?_
    exact firsts_no hno.out (Below.refl _ _)
  · obtain ⟨b, off, rfl, hbl, hc⟩ := h.cells (by omega)
    have hl := h.hlen
    have hle := h.le
    have hcap := h.capb
    unfold maxLen at hcap
    have hby := h.bytes
    have i0 : (256 : Int) ≤ len := by omega
    have k0 : (0 : Int) < len := by omega
    have k1 : (1 : Int) < len := by omega
    have k2 : (2 : Int) < len := by omega
    have k3 : (3 : Int) < len := by omega
    have k4 : (4 : Int) < len := by omega
    have k5 : (5 : Int) < len := by omega
    have k6 : (6 : Int) < len := by omega
    have c0 := hc 0 (by omega)
    have c1 := hc 1 (by omega)
    have c2 := hc 2 (by omega)
    have c3 := hc 3 (by omega)
    have c4 := hc 4 (by omega)
    have c5 := hc 5 (by omega)
    have c6 := hc 6 (by omega)
    simp only [Nat.add_zero] at c0
    have b0 := getD_byt hby 0 (by omega)
    have b1 := getD_byt hby 1 (by omega)
    have b2 := getD_byt hby 2 (by omega)
    have b3 := getD_byt hby 3 (by omega)
    have b4 := getD_byt hby 4 (by omega)
    have b5 := getD_byt hby 5 (by omega)
    have b6 := getD_byt hby 6 (by omega)
    have e4 := num4 l hby (by omega)
    have e2 := num2 l hby (by omega)
    have hfit : Hid (∀ q, Begins l q → Fits l) := fun q hq => by obtain ⟨hok, r, rfl⟩ := hq; exact fits_sec hok r
    have hcand : Hid (∀ q, Begins l q → q = cand l) := fun q hq => begins_cand hq
    unfold Fits at hfit
    obtain ⟨fl, hfl⟩ : ∃ fl : Nat, l.getD 6 0 = (fl : Int) := ⟨(l.getD 6 0).toNat, by omega⟩
    have hNb : numK l 4 < 4294967296 := by have := numK_lt hby 4 (by omega); simpa using this
    obtain ⟨N, hN⟩ : ∃ N, numK l 4 = N := ⟨_, rfl⟩
    obtain ⟨n, hn⟩ : ∃ n, numK (l.drop 4) 2 = n := ⟨_, rfl⟩
    rw [hN] at e4 hNb
    rw [hn] at e2 hfit
    rw [hfl] at c6 b6 hfit
    simp only [Int.toNat_natCast] at hfit
    generalize l.getD 0 0 = x0 at c0 b0 e4
    generalize l.getD 1 0 = x1 at c1 b1 e4
    generalize l.getD 2 0 = x2 at c2 b2 e4
    generalize l.getD 3 0 = x3 at c3 b3 e4
    generalize l.getD 4 0 = x4 at c4 b4 e2
    generalize l.getD 5 0 = x5 at c5 b5 e2
    replace e4 := e4.symm
    replace e2 := e2.symm
    replace hN := hide hN
    replace hn := hide hn
    replace hfl := hide hfl
    replace hc := hide hc
    replace h := hide h
    go_enter Tryd.func19, Tryd.ntmps19
    go_wp2_with fail
    go_quiet (fail)
    clear c0 c1 c2 c3 k0 k1 k2 k3 e4 b0 b1 b2 b3
    go_wp2_with fail
    go_quiet (fail)
    clear c4 c5 k4 k5 e2 b4 b5
    by_cases g1 : n ≤ 244
    · by_cases g2 : fl ≤ 3
      · have j1 : (n : Int) ≤ 244 := by omega
        have j2 : (fl : Int) ≤ 3 := by omega
        obtain ⟨m7, hm7⟩ : ∃ m7, 7 + n = m7 := ⟨_, rfl⟩
        have e7 : (7 : Int) + (n : Int) = (m7 : Int) := by omega
        have e8 : IntKind.i64.wrap (m7 : Int) = (m7 : Int) := by rw [IntKind.wrap_i64]; omega
        have e9 : (7 : Int) ≤ (m7 : Int) := by omega
        have e10 : (m7 : Int) ≤ cap := by omega
        have e11 : cap ≠ 7 := by omega
        have e13 : IntKind.i64.wrap (fl : Int) = (fl : Int) := by rw [IntKind.wrap_i64]; omega
        have hS : Hid (∀ q, Begins l q → ∀ k, k < 256 → l.getD k 0 = (sec N ((l.drop 7).take (m7 - 7)) fl).getD k 0) := by
          intro q hq k hk
          have e := hcand.out q hq
          obtain ⟨hok, r, hr⟩ := hq
          have hql := hok.slen
          have es : sec N ((l.drop 7).take (m7 - 7)) fl = q.sec := by
            rw [e]
            show _ = sec (numK l 4) ((l.drop 7).take (numK (l.drop 4) 2)) (l.getD 6 0).toNat
            rw [hN.out, hn.out, hfl.out, Int.toNat_natCast, show m7 - 7 = n by omega]
          rw [es, hr]
          simp [List.getD, List.getElem?_append_left (show k < q.sec.length by omega)]
        have hnum : Hid (∀ q, Begins l q → (N : Int) = (q.number : Int)) := fun q hq => by rw [hcand.out q hq]; show _ = ((numK l 4 : Nat) : Int); rw [hN.out]
        go_wp2_with fail
        have hT1 : Hid (∀ q, Below w.heap.size w (w.drewN q)) := fun q => below_drewsN (Below.refl _ _) q
        have hH1 : Hid (∀ q, Has (w.drewN q).drew (some ⟨b, off + 7, none⟩) (m7 - 7) (cap - 7) ((l.drop 7).take (m7 - 7))) := fun q => (h.out.piece 7 (m7 - 7) (by omega) (cap - 7) (by omega) (by unfold maxLen; omega)).heap rfl
        have hc6 : ∀ q, (w.drewN q).drew.cell? ⟨b, off + 6, none⟩ = some (.int .u8 (fl : Int)) := fun q => c6
        generalize hW1 : w.drewN _ = W1
        have T1 : Hid (Below w.heap.size w W1) := by rw [← hW1]; exact hT1.out _
        have H1 : Hid (Has W1.drew (some ⟨b, off + 7, none⟩) (m7 - 7) (cap - 7) ((l.drop 7).take (m7 - 7))) := by rw [← hW1]; exact hH1.out _
        have c6' : W1.drew.cell? ⟨b, off + 6, none⟩ = some (.int .u8 (fl : Int)) := by rw [← hW1]; exact hc6 _
        have hc' : Hid (∀ i, i < len → W1.drew.cell? ⟨b, off + i, none⟩ = some (.int .u8 (l.getD i 0))) := by rw [← hW1]; exact hc.out
        have hz1 : Hid (b < W1.drew.heap.size) := by rw [← hW1]; exact hbl
        have hsec := hide (rsector_any W1.drew N fl _ (m7 - 7) (cap - 7) _ H1.out hNb (by omega) g2)
        have hsl : (sec N ((l.drop 7).take (m7 - 7)) fl).length = 256 := sec_len (by simp; omega)
        have hsb : Byts (sec N ((l.drop 7).take (m7 - 7)) fl) := byts_sec ((Byts.drop hby 7).take _) (by omega)
        generalize hSS : sec N ((l.drop 7).take (m7 - 7)) fl = SS at hsec hS hsl hsb
        clear hSS H1 hH1 hc6 c6 hT1 hW1
        replace hby := hide hby
        replace hsl := hide hsl
        replace hsb := hide hsb
        replace hm7 := hide hm7
        go_region_held3 (fun w' => w'.cell? ⟨b, off + 6, none⟩ = some (.int .u8 (fl : Int))) (first | (exact c6') | (exact c9)) (first
          | (go_at_call 27; (try rw [e13]); refine hsec.out.mono ?_; rintro e W2 ⟨a2, n2, p2, rfl, H2, B2, -⟩; have c9 := (B2.cell (p := ⟨b, off + 6, none⟩) hz1.out).trans c6'; have e12 := H2.hlen; rw [hsl.out] at e12; subst e12))
        have T2 : Hid (Below w.heap.size w W2) := T1.out.trans ((Below.ofdrew B2).mono T1.out.size)
        obtain ⟨b2, off2, rfl, hbl2, hcS⟩ := H2.cells (by omega)
        have hcL : Hid (∀ i, i < len → W2.cell? ⟨b, off + i, none⟩ = some (.int .u8 (l.getD i 0))) := fun i hi => (B2.cell (p := ⟨b, off + i, none⟩) hz1.out).trans (hc'.out i hi)
        replace hcS := hide hcS
        have Hp : Hid (Has W2 (some ⟨b, off + 7, none⟩) (m7 - 7) (cap - 7) ((l.drop 7).take (m7 - 7))) := (h.out.piece 7 (m7 - 7) (by have := hm7.out; omega) (cap - 7) (by omega) (by unfold maxLen; omega)).kept T2.out (Nat.le_refl _)
        have hbz : Hid (b < W2.heap.size) := Nat.lt_of_lt_of_le hz1.out B2.size
        clear c6' B2 H2 hsec c9 hc' hc hz1
        go_wp2_with fail
        go_loopw [9] (fun i wr => ∃ k : Nat, k ≤ 256 ∧ i = .int .i64 (k : Int) ∧ Hid (∃ m, wr = W2.drewN m)) (fun i _ => 256 - (intOf i).toNat)
        case atStart => exact ⟨0, Nat.zero_le _, rfl, (⟨0, rfl⟩ : ∃ m, W2 = W2.drewN m)⟩
        case round =>
          obtain ⟨k, hk, rfl, hwr⟩ := hrel
          obtain ⟨m8, hm8⟩ := hwr.out
          have hTw : Hid (Below w.heap.size w wr) := by rw [hm8]; exact below_drewsN T2.out m8
          by_cases hk2 : k < 256
          · have k7 : (k : Int) < 256 := by omega
            have k8 : (k : Int) < len := by omega
            have q0 : wr.cell? ⟨b, off + k, none⟩ = some (.int .u8 (l.getD k 0)) := by rw [hm8]; exact hcL.out k (by omega)
            have q1 : wr.cell? ⟨b2, off2 + k, none⟩ = some (.int .u8 (SS.getD k 0)) := by rw [hm8]; exact hcS.out k hk2
            have hSk := hide (fun q hq => hS.out q hq k hk2)
            generalize l.getD k 0 = y0 at q0 hSk
            generalize SS.getD k 0 = y1 at q1 hSk
            replace hm8 := hide hm8
            by_cases hy : y0 = y1
            · subst hy
              clear hSk
              go_wp2_with fail
              go_quiet (fail)
              go_wp2_with fail
              go_roundw
              case rel => exact ⟨k + 1, by omega, by go_num, (⟨m8 + nq, by rw [hm8.out, World.drewN_drewN]⟩ : ∃ m, wr.drewN nq = W2.drewN m)⟩
              case measure => simp [intOf]; omega
            · have hno : Hid (∀ q, ¬ Begins l q) := fun q hq => hy (hSk.out q hq)
              clear hSk
              go_wp2_with fail
              go_quiet (fail)
              go_wp2_with fail
              (try simp only [Exit.inBlock, Exit.then])
              refine bodyPost_ret (results_tmp4 rfl _ _ _) rfl ?_
              exact firsts_no hno.out (below_drewsN hTw.out _)
          · obtain rfl : k = 256 := by omega
            have c6 : wr.drew.cell? ⟨b, off + 6, none⟩ = some (.int .u8 (fl : Int)) := by rw [hm8, ← hfl.out]; exact hcL.out 6 (by omega)
            have c7 : (wr.drew.alloc (.cells #[] 5)).cell? ⟨b, off + 6, none⟩ = some (.int .u8 (fl : Int)) := cell_alloc_l _ c6
            have hb9 : Hid (b < wr.drew.heap.size) := by rw [hm8]; exact hbz.out
            have Hq : Hid (Has (wr.drew.alloc (.cells #[] 5)) (some ⟨b, off + 7, none⟩) (m7 - 7) (cap - 7) ((l.drop 7).take (m7 - 7))) := by
              have h1 : Has wr.drew (some ⟨b, off + 7, none⟩) (m7 - 7) (cap - 7) ((l.drop 7).take (m7 - 7)) := by rw [hm8]; exact Hp.out.heap rfl
              exact h1.kept ((Below.refl wr.drew.heap.size wr.drew).alloc (Nat.le_refl _) _) (Nat.le_refl _)
            have hm79 : m7 ≤ 1000 := by have := hm7.out; omega
            replace hm8 := hide hm8
            go_wp2_with fail
            go_region_held3 (fun w' => w'.cell? ⟨b, off + 6, none⟩ = some (.int .u8 (fl : Int))) (first | (exact c6) | (exact c7) | (exact c8)) (first
              | (refine step_app rfl (.tmp 77) (.tmp 81) rfl wr.drew.heap.size _ 0 [] rfl (owns_empty _) (some ⟨b, off + 7, none⟩) (m7 - 7) (cap - 7) _ rfl Hq.out (by omega) (by simp) ?_; intro v9 W9 O9 G9; have B9 := ((Below.refl wr.drew.heap.size wr.drew).alloc (Nat.le_refl _) (.cells #[] 5)).grown G9 (by simp) (fun q e => by cases e; exact Nat.le_refl _); have c8 := (B9.cell (p := ⟨b, off + 6, none⟩) hb9.out).trans c6))
            go_wp2_with fail
            (try simp only [Exit.inBlock, Exit.then])
            refine bodyPost_ret (results_tmp4 rfl _ _ _) rfl ?_
            exact ⟨_, _, _, _, rfl, fun q hq => ⟨rfl, hnum.out q hq⟩, hTw.out.trans ((Below.ofdrew B9).mono hTw.out.size)⟩
      · have j1 : (n : Int) ≤ 244 := by omega
        have j2 : 3 < (fl : Int) := by omega
        have hno : Hid (∀ q, ¬ Begins l q) := fun q hq => by have := hfit.out q hq; omega
        go_wp2_with fail
        (try simp only [Exit.inBlock, Exit.then])
        refine bodyPost_ret (results_tmp4 rfl _ _ _) rfl ?_
        exact firsts_no hno.out (below_drewsN (Below.refl _ _) _)
    · have j1 : 244 < (n : Int) := by omega
      have hno : Hid (∀ q, ¬ Begins l q) := fun q hq => by have := hfit.out q hq; omega
      go_wp2_with fail
      (try simp only [Exit.inBlock, Exit.then])
      refine bodyPost_ret (results_tmp4 rfl _ _ _) rfl ?_
      exact firsts_no hno.out (below_drewsN (Below.refl _ _) _)
end Go.Proofs.YtbaclihlckfndaaDoor
