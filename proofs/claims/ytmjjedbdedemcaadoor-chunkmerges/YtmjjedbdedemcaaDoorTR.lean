/-
  Two samples set against each other; Within.
-/
import Derived.Test.YtmjjedbdedemcaaDoorTQ
namespace Go.Proofs.YtmjjedbdedemcaaDoor
open Go.RowKit
set_option linter.unusedVariables false
set_option linter.unusedSimpArgs false

def cmpI (x y : Int) : Int := if x < y then -1 else if y < x then 1 else 0
theorem nan_any (x : Int) (w : World) : Calls Tryd.prog 58 #[.int .i64 x] w fun e w' => e = .returned (.bool false) ∧ w' = w := by
  go_enter Tryd.func58, Tryd.ntmps58
  go_wp2_with fail
  go_ret
  exact ⟨by simp, rfl⟩
theorem cmp_any (x y : Int) (w : World) : Calls Tryd.prog 44 #[.int .i64 x, .int .i64 y] w fun e w' => e = .returned (.int .i64 (cmpI x y)) ∧ w' = w := by
  rcases Int.lt_trichotomy x y with h | h | h
  · have e1 : cmpI x y = -1 := by unfold cmpI; rw [if_pos h]
    replace e1 := hide e1
    go_enter Tryd.func44, Tryd.ntmps44
    go_wp2_with fail
    refine (nan_any x w).mono ?_
    rintro e w1 ⟨rfl, rfl⟩
    go_wp2_with fail
    refine (nan_any y w1).mono ?_
    rintro e w2 ⟨rfl, rfl⟩
    go_wp2_with fail
    go_ret
    exact ⟨by rw [e1.out]; rfl, rfl⟩
  · subst h
    have e1 : cmpI x x = 0 := by unfold cmpI; rw [if_neg (by omega), if_neg (by omega)]
    replace e1 := hide e1
    go_enter Tryd.func44, Tryd.ntmps44
    go_wp2_with fail
    refine (nan_any x w).mono ?_
    rintro e w1 ⟨rfl, rfl⟩
    go_wp2_with fail
    refine (nan_any x w1).mono ?_
    rintro e w2 ⟨rfl, rfl⟩
    go_wp2_with fail
    go_ret
    exact ⟨by rw [e1.out]; rfl, rfl⟩
  · have e1 : cmpI x y = 1 := by unfold cmpI; rw [if_neg (by omega), if_pos h]
    have h' : ¬ x < y := by omega
    replace e1 := hide e1
    go_enter Tryd.func44, Tryd.ntmps44
    go_wp2_with fail
    refine (nan_any x w).mono ?_
    rintro e w1 ⟨rfl, rfl⟩
    go_wp2_with fail
    refine (nan_any y w1).mono ?_
    rintro e w2 ⟨rfl, rfl⟩
    go_wp2_with fail
    go_ret
    exact ⟨by rw [e1.out]; rfl, rfl⟩
theorem byTime_any (x0 x1 y0 y1 : Int) (w : World) : Calls Tryd.prog 27 #[.agg #[.int .i64 x0, .int .u64 x1], .agg #[.int .i64 y0, .int .u64 y1]] w fun e w' => e = .returned (.int .i64 (cmpI x0 y0)) ∧ Below w.heap.size w w' := by
  have B : Hid (Below w.heap.size w ((w.alloc (.cells #[.int .i64 x0, .int .u64 x1] 50)).alloc (.cells #[.int .i64 y0, .int .u64 y1] 50))) := ((Below.refl _ w).alloc (Nat.le_refl _) _).alloc (by simp) _
  go_enter Tryd.func27, Tryd.ntmps27
  go_wp2_with fail
  refine (cmp_any x0 y0 _).mono ?_
  rintro e w1 ⟨rfl, rfl⟩
  go_wp2_with fail
  go_ret
  exact ⟨rfl, B.out⟩
theorem HasS.tail {w : World} {b off n cap : Nat} {x : Smp} {L : List Smp} (h : HasS w (some ⟨b, off, none⟩) (n + 1) cap (x :: L)) : HasS w (some ⟨b, off + 2, none⟩) n (cap - 1) L := by
  have h1 := h.le
  have h2 := h.capb
  refine ⟨by have := h.hlen; simpa using this, by omega, by omega, (fun e => by cases e), fun hp => ?_, fun s hs => h.vb s (by simp [hs])⟩
  obtain ⟨b', off', e, hb, hc⟩ := h.cells (by omega)
  cases e
  refine ⟨b, off + 2, rfl, hb, fun i hi => ?_⟩
  have := hc (i + 1) (by omega)
  simp only [List.getD_cons_succ] at this
  rw [show off + 2 + i * 2 = off + (i + 1) * 2 by omega]
  exact this
theorem HasS.tail0 {w : World} {b off cap : Nat} {x : Smp} {L : List Smp} {ad : Option Addr} (h : HasS w (some ⟨b, off, none⟩) 1 cap (x :: L)) (ha : ad ≠ none) : HasS w ad 0 (cap - 1) L := by
  have h1 := h.le
  have h2 := h.capb
  refine ⟨by have := h.hlen; simpa using this, by omega, by omega, (fun e => absurd e ha), fun hp => by omega, fun s hs => h.vb s (by simp [hs])⟩

/-- What holds between rounds of Within. -/
structure WiI (w : World) (k : Nat) (f t : Int) (L : List Smp) (ao : Option Addr) (n co : Nat) (wr : World) : Prop where
  own : wr.ownsRow w.heap.size 50 2 (.slice ao n co) n (flat ((L.take k).filter (inR f t)))
  box : wr.heap[w.heap.size]? = some (.cells #[.int .i64 f, .int .i64 t] 47 (0, 0))
  bel : Below w.heap.size w wr
theorem WiI.up {w : World} {k : Nat} {f t : Int} {L : List Smp} {ao : Option Addr} {n co : Nat} {wr w2 : World} (h : WiI w k f t L ao n co wr) (hk : k < L.length) {s : Smp} (hs : L.getD k noSmp = s) (hin : inR f t s = true) {a3 : Option Addr} {c3 : Nat}
    (O : w2.ownsRow w.heap.size 50 2 (.slice a3 (n + 1) c3) (n + 1) (flat ((L.take k).filter (inR f t) ++ [s]))) (B : Below w.heap.size w w2) (X : w2.heap[w.heap.size]? = some (.cells #[.int .i64 f, .int .i64 t] 47 (0, 0))) : WiI w (k + 1) f t L a3 (n + 1) c3 w2 := by
  refine ⟨?_, X, B⟩
  rw [take_succS hk, hs, List.filter_append, List.filter_cons_of_pos hin, List.filter_nil]
  exact O
theorem WiI.stay {w : World} {k : Nat} {f t : Int} {L : List Smp} {ao : Option Addr} {n co : Nat} {wr : World} (h : WiI w k f t L ao n co wr) (hk : k < L.length) {s : Smp} (hs : L.getD k noSmp = s) (hin : inR f t s = false) (o : Obj) : WiI w (k + 1) f t L ao n co (wr.alloc o) := by
  refine ⟨?_, ?_, h.bel.alloc h.bel.size o⟩
  · rw [take_succS hk, hs, List.filter_append, List.filter_cons_of_neg (by simp [hin]), List.filter_nil, List.append_nil]
    exact h.own.alloc o
  · have := ((Below.refl _ wr).alloc (Nat.le_refl _) o).block w.heap.size (Array.getElem?_eq_some_iff.1 h.box).1
    exact this.trans h.box
set_option maxRecDepth 100000 in
set_option maxHeartbeats 2000000 in
theorem within_any (w : World) (a : Option Addr) (len cap : Nat) (L : List Smp) (h : HasS w a len cap L) (f t : Int) (hlen : len ≤ 1099511627) :
    Calls Tryd.prog 17 #[.slice a len cap, .agg #[.int .i64 f, .int .i64 t]] w (Smps w (L.filter (inR f t))) := by
  have hl := h.hlen
  have hvb := hide h.vb
  replace h := hide h
  go_enter Tryd.func17, Tryd.ntmps17
  go_wp2_with fail
  go_loopw [5, 7, 10] (fun ov pv iv wr => ∃ (k n : Nat) (ao : Option Addr) (co : Nat), k ≤ len ∧ n ≤ k ∧ ov = .slice ao n co ∧ iv = .int .i64 (k : Int) ∧ Hid (WiI w k f t L ao n co wr)) (fun _ _ iv _ => len - (intOf iv).toNat)
  case atStart => exact ⟨0, 0, none, 0, Nat.zero_le _, Nat.zero_le _, rfl, rfl, (⟨⟨rfl, .inl ⟨rfl, rfl⟩⟩, heap_alloc_new w _, (Below.refl _ w).alloc (Nat.le_refl _) _⟩ : WiI w 0 f t L none 0 0 _)⟩
  case round =>
    obtain ⟨k, n, ao, co, hk, hnk, rfl, rfl, hI⟩ := hrel
    by_cases hkl : k < len
    · have j1 : (k : Int) < (len : Int) := by omega
      have j0 : (0 : Int) ≤ (k : Int) := by omega
      obtain ⟨b, off, rfl, hb, hcs⟩ := h.out.cells (by omega)
      have c0 := (hI.out.bel.cell (p := ⟨b, off + k * 2, none⟩) hb).trans (hcs k hkl).1
      have c1 := (hI.out.bel.cell (p := ⟨b, off + k * 2 + 1, none⟩) hb).trans (hcs k hkl).2
      have hx64 := vb_getD hvb.out k
      have hbx := hI.out.box
      have hba : ∀ o, (wr.alloc o).heap[w.heap.size]? = some (.cells #[.int .i64 f, .int .i64 t] 47 (0, 0)) := fun o => (((Below.refl _ wr).alloc (Nat.le_refl _) o).block w.heap.size (Array.getElem?_eq_some_iff.1 hbx).1).trans hbx
      have d0 : ∀ o, (wr.alloc o).cell? ⟨w.heap.size, 0, none⟩ = some (.int .i64 f) := fun o => by simp [cell_of_row _ _ _ _ _ _ (hba o)]
      have d1 : ∀ o, (wr.alloc o).cell? ⟨w.heap.size, 1, none⟩ = some (.int .i64 t) := fun o => by simp [cell_of_row _ _ _ _ _ _ (hba o)]
      replace hbx := hide hbx
      replace hba := hide hba
      obtain ⟨s, hs⟩ : ∃ s, L.getD k noSmp = s := ⟨_, rfl⟩
      rw [hs] at c0 c1 hx64
      obtain ⟨x0, x⟩ := s
      simp only at c0 c1 hx64
      have hkL : k < L.length := by omega
      have hno := hide (fun (hin : inR f t (x0, x) = false) => hI.out.stay hkL hs hin (.cells #[.int .i64 x0, .int .u64 (x : Int)] 50))
      replace hs := hide hs
      replace hkL := hide hkL
      clear hcs
      by_cases h1 : f ≤ x0
      · by_cases h2 : x0 ≤ t
        · have hin : Hid (inR f t (x0, x) = true) := by show inR f t (x0, x) = true; simp [inR, h1, h2]
          have hwb := hide hI.out.bel.size
          obtain ⟨W1, hW1⟩ : ∃ W1, wr.alloc (.cells #[.int .i64 x0, .int .u64 (x : Int)] 50) = W1 := ⟨_, rfl⟩
          have b1 : Hid (Below w.heap.size w W1) := by rw [← hW1]; exact hI.out.bel.alloc hI.out.bel.size _
          have OO := hide ((hI.out.own.alloc (.cells #[.int .i64 x0, .int .u64 (x : Int)] 50)).alloc (.cells #[.int .i64 x0, .int .u64 (x : Int)] 50))
          have HH : Hid (HasS (W1.alloc (.cells #[.int .i64 x0, .int .u64 (x : Int)] 50)) (some ⟨W1.heap.size, 0, none⟩) 1 1 [(x0, x)]) := hasS_one W1 x0 x hx64
          have bb : Hid (w.heap.size ≤ (W1.alloc (.cells #[.int .i64 x0, .int .u64 (x : Int)] 50)).heap.size) := by have := b1.out.size; show w.heap.size ≤ _; simp; omega
          have fin : ∀ (w2 : World) (v3 : Value), w2.ownsRow w.heap.size 50 2 v3 (n + 1) (flat ((L.take k).filter (inR f t) ++ [(x0, x)])) → (W1.alloc (.cells #[.int .i64 x0, .int .u64 (x : Int)] 50)).grownBy w2 (Value.slice ao n co).ownBlock →
              ∃ a3 c3, v3 = .slice a3 (n + 1) c3 ∧ WiI w (k + 1) f t L a3 (n + 1) c3 w2 := fun w2 v3 O G => by
            obtain ⟨a3, c3, e3⟩ := slice_of_owns O
            subst e3
            have B2 := (b1.out.alloc b1.out.size (.cells #[.int .i64 x0, .int .u64 (x : Int)] 50)).grown G bb.out (fun q e => (hI.out.own.lt q e).1)
            refine ⟨a3, c3, rfl, hI.out.up hkL.out hs.out hin.out O B2 ?_⟩
            have hb2 : (W1.alloc (.cells #[.int .i64 x0, .int .u64 (x : Int)] 50)).heap[w.heap.size]? = some (.cells #[.int .i64 f, .int .i64 t] 47 (0, 0)) := by
              have h3 := hba.out (.cells #[.int .i64 x0, .int .u64 (x : Int)] 50)
              rw [hW1] at h3
              exact (((Below.refl _ W1).alloc (Nat.le_refl _) _).block w.heap.size (Array.getElem?_eq_some_iff.1 h3).1).trans h3
            refine (G.block w.heap.size (Array.getElem?_eq_some_iff.1 hb2).1 (fun e => ?_)).trans hb2
            rcases hI.out.own.2 with ⟨e2, _⟩ | ⟨g, cp, cur, e2, _, hg, _⟩
            · rw [e2] at e; simp [Value.ownBlock] at e
            · rw [e2] at e
              simp [Value.ownBlock] at e
              rw [← e, hbx.out] at hg
              simp at hg
          rw [hW1] at OO
          replace fin := hide fin
          clear hno hI
          have i5 : (W1.heap.size) = wr.heap.size + 1 := by rw [← hW1]; simp
          rw [i5] at HH
          rw [← hW1] at OO HH bb fin
          clear i5 b1 hW1 W1
          go_wp2_with (at_builtin; refine wpList_appS rfl (.tmp 26) (.tmp 28) rfl w.heap.size _ n _ rfl OO.out _ 1 1 [(x0, x)] rfl HH.out (by omega) bb.out ?_; intro v3 w2 O2 G2; obtain ⟨a3, c3, e3, I3⟩ := fin.out w2 v3 O2 G2; subst e3; replace I3 := hide I3; clear O2 G2 OO HH fin bb)
          go_roundw
          case rel => exact ⟨k + 1, n + 1, a3, c3, by omega, by omega, rfl, by go_num, I3⟩
          case measure => simp [intOf]; omega
        · have hin : Hid (inR f t (x0, x) = false) := by show inR f t (x0, x) = false; simp [inR]; omega
          have I3 := hide (hno.out hin.out)
          have h3 : t < x0 := by omega
          clear hno
          go_wp2_with fail
          go_roundw
          case rel => exact ⟨k + 1, n, ao, co, by omega, by omega, rfl, by go_num, I3⟩
          case measure => simp [intOf]; omega
      · have hin : Hid (inR f t (x0, x) = false) := by show inR f t (x0, x) = false; simp [inR]; omega
        have I3 := hide (hno.out hin.out)
        have h3 : x0 < f := by omega
        clear hno
        go_wp2_with fail
        go_roundw
        case rel => exact ⟨k + 1, n, ao, co, by omega, by omega, rfl, by go_num, I3⟩
        case measure => simp [intOf]; omega
    · obtain rfl : k = len := by omega
      have fin : Hid (Smps w (L.filter (inR f t)) (.returned (.slice ao n co)) wr) := by
        have O := hI.out.own
        rw [List.take_of_length_le (by omega)] at O
        obtain ⟨a2, c2, e2, H2⟩ := hasS_of_owns O (fun s hs => hvb.out s ((List.mem_filter.1 hs).1))
        cases e2
        have e : (L.filter (inR f t)).length = n := H2.hlen
        show Smps _ _ _ _
        unfold Smps
        rw [e]
        exact ⟨ao, co, rfl, H2, hI.out.bel, O⟩
      go_wp2_with fail
      go_ret
      exact fin.out
end Go.Proofs.YtmjjedbdedemcaaDoor
