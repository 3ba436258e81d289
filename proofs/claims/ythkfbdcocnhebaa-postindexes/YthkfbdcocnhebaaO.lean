/-
  The reference's Add, Or.
-/
import Derived.Test.YthkfbdcocnhebaaN
namespace Go.Proofs.Ythkfbdcocnhebaa
open Go.RowKit
set_option linter.unusedVariables false
set_option linter.unusedSimpArgs false

/-- How far adding x to a list has come: p is what was gone through. -/
structure AddI (p : List Int) (x : Int) (d : Bool) (r : List Int) : Prop where
  up : Up r
  mem : ∀ y, y ∈ r ↔ y ∈ p ∨ (d = true ∧ y = x)
  no : d = false → ∀ y ∈ p, y < x
  yes : d = true → ∃ y ∈ p, x ≤ y
  len : r.length ≤ p.length + (if d = true then 1 else 0)
theorem AddI.start (x : Int) : AddI [] x false [] := ⟨up_nil, fun y => by simp, fun _ y hy => (by simp at hy), fun h => (by cases h), by simp⟩
theorem up_push {r : List Int} {t : Int} (h : Up r) (hl : ∀ y ∈ r, y < t) : Up (r ++ [t]) := List.pairwise_append.2 ⟨h, by simp, fun a ha b hb => by rw [List.mem_singleton.1 hb]; exact hl a ha⟩
/-- x is put in ahead of t. -/
theorem AddI.mid {p r : List Int} {x t : Int} (h : AddI p x false r) (ht : x ≤ t) (hp : ∀ y ∈ p, y < t) : AddI (p ++ [t]) x true (if t = x then r ++ [x] else r ++ [x] ++ [t]) := by
  have hr : ∀ y ∈ r, y < x := fun y hy => h.no rfl y (by simpa using (h.mem y).1 hy)
  have u1 : Up (r ++ [x]) := up_push h.up hr
  have hl := h.len
  have hm : ∀ y, y ∈ r ↔ y ∈ p := fun y => by simpa using h.mem y
  by_cases e : t = x
  · rw [if_pos e]
    subst e
    refine ⟨u1, fun y => ?_, fun h => (by cases h), fun _ => ⟨t, by simp, Int.le_refl _⟩, ?_⟩
    · simp [hm y]
    · simp at hl ⊢; omega
  · rw [if_neg e]
    refine ⟨up_push u1 (fun y hy => ?_), fun y => ?_, fun h => (by cases h), fun _ => ⟨t, by simp, ht⟩, ?_⟩
    · rcases List.mem_append.1 hy with hy | hy
      · have := hr y hy; omega
      · rw [List.mem_singleton.1 hy]; omega
    · simp [hm y]; constructor
      · rintro (h | h | h)
        · exact .inl (.inl h)
        · exact .inr h
        · exact .inl (.inr h)
      · rintro ((h | h) | h)
        · exact .inl h
        · exact .inr (.inr h)
        · exact .inr (.inl h)
    · simp at hl ⊢; omega
theorem AddI.next {p r : List Int} {x t : Int} {d : Bool} (h : AddI p x d r) (hd : d = true ∨ t < x) (hp : ∀ y ∈ p, y < t) : AddI (p ++ [t]) x d (r ++ [t]) := by
  have hl := h.len
  refine ⟨up_push h.up (fun y hy => ?_), fun y => ?_, fun e y hy => ?_, fun e => ?_, by simp at hl ⊢; omega⟩
  · rcases (h.mem y).1 hy with hy | ⟨e, rfl⟩
    · exact hp y hy
    · obtain ⟨z, hz, hxz⟩ := h.yes e
      have := hp z hz; omega
  · simp [h.mem y]; constructor
    · rintro ((h | h) | h)
      · exact .inl (.inl h)
      · exact .inr h
      · exact .inl (.inr h)
    · rintro ((h | h) | h)
      · exact .inl (.inl h)
      · exact .inr h
      · exact .inl (.inr h)
  · rcases List.mem_append.1 hy with hy | hy
    · exact h.no e y hy
    · rw [List.mem_singleton.1 hy]
      rcases hd with h | h
      · rw [e] at h; cases h
      · exact h
  · obtain ⟨z, hz, hxz⟩ := h.yes e
    exact ⟨z, by simp [hz], hxz⟩
theorem own_el {w : World} {base : Nat} {g cap : Nat} {r : List Int} {x : Int} (h : w.ownsRow base 24 1 (.slice (some ⟨g, 0, none⟩) (r.length + 1) cap) (r.length + 1) ((r ++ [x]).map (Value.int .u64))) : w.ownsRow base 24 1 (.slice (some ⟨g, 0, none⟩) (r ++ [x]).length cap) (r ++ [x]).length ((r ++ [x]).map (Value.int .u64)) := by
  rw [List.length_append, List.length_singleton]; exact h
theorem el_len (r : List Int) (x : Int) : (r ++ [x]).length = r.length + 1 := by simp
theorem lt_all {l : List Int} (h : Up l) {i : Nat} (hi : i < l.length) : ∀ y ∈ l.take i, y < l.getD i 0 := fun y hy => by
  have hs := take_succ hi
  have hu := up_take h (i + 1)
  rw [hs] at hu
  exact (List.pairwise_append.1 hu).2.2 y hy _ (by simp)
set_option maxHeartbeats 8000000 in
set_option maxRecDepth 100000 in
theorem radd_any (w : World) (a : Option Addr) (na ca : Nat) (la : List Int) (Ha : HasU w a na ca la) (hna : na ≤ 100000) (x : Int) (hx : 0 ≤ x ∧ x < 18446744073709551616) : Calls Try.prog 20 #[.slice a na ca, .int .u64 x] w (RetE w (Up la) (fun y => y ∈ la ∨ y = x) (la.length + 1)) := by
  have C1 := hide (rcheck_any w a na ca la Ha (by omega))
  have hla := hide Ha.hlen
  have hra := hide Ha.range
  have hKa := hide Ha
  have i1 : (na : Int) ≤ 100000 := by omega
  clear Ha
  by_cases hua : Up la
  · rw [upE_ok hua] at C1
    have hua' := hide hua
    clear hua
    go_enter Try.func20, Try.ntmps20
    go_wp2_with fail
    refine C1.out.mono ?_
    rintro e w2 ⟨rfl, B3⟩
    have O := (owns_empty w2)
    have O' : (w2.alloc (.cells #[] 24)).ownsRow w.heap.size 24 1 (.slice (some ⟨w2.heap.size, 0, none⟩) 0 0) 0 (([] : List Int).map (Value.int .u64)) := ⟨O.1, by
      rcases O.2 with h | ⟨g, cap, cur, h1, h2, h3⟩
      · exact .inl h
      · exact .inr ⟨g, cap, cur, h1, by have := B3.size; omega, h3⟩⟩
    have B4 : Hid (Below w.heap.size w (w2.alloc (.cells #[] 24))) := B3.alloc B3.size _
    obtain ⟨w3, hw3⟩ : ∃ w3, w2.alloc (.cells #[] 24) = w3 := ⟨_, rfl⟩
    rw [hw3] at O' B4
    replace O' := hide O'
    replace hw3 := hide hw3
    clear O B3
    go_wp2_with fail
    rw [hw3.out]
    go_loopw [6, 7, 8] (fun vo vd vi wr => ∃ (i : Nat) (d : Bool) (ao : Option Addr) (co : Nat) (r : List Int), i ≤ na ∧ vo = .slice ao r.length co ∧ vd = .bool d ∧ vi = .int .i64 (i : Int) ∧ Hid (AddI (la.take i) x d r) ∧ Hid (∀ y ∈ r, 0 ≤ y ∧ y < 18446744073709551616) ∧ Hid (wr.ownsRow w.heap.size 24 1 (.slice ao r.length co) r.length (r.map (Value.int .u64))) ∧ Hid (Below w.heap.size w wr)) (fun _ _ vi _ => na - (intOf vi).toNat)
    case atStart => exact ⟨0, false, _, _, [], Nat.zero_le _, rfl, rfl, rfl, AddI.start x, (fun y hy => by simp at hy : ∀ y ∈ ([] : List Int), 0 ≤ y ∧ y < 18446744073709551616), O', B4⟩
    case round =>
      obtain ⟨i, d, ao, co, r, hi, rfl, rfl, rfl, hA, hR, hO, hB⟩ := hrel
      have hrl : r.length ≤ 100001 := by
        have := hA.out.len
        rw [List.length_take, hla.out] at this
        split at this <;> omega
      have hsz := hB.out.size
      by_cases hlt : i < na
      · have j1 : (i : Int) < (na : Int) := by omega
        have j2 : (0 : Int) ≤ (i : Int) := by omega
        obtain ⟨bb, off, rfl, hbb, c1, c2, c3⟩ := hKa.out.at i hlt
        have hil : i < la.length := by rw [hla.out]; exact hlt
        have c1i : Hid (∀ W, Below w.heap.size w W → W.cell? ⟨bb, off + i, none⟩ = some (.int .u64 (la.getD i 0))) := fun W hW => (hW.cell (p := ⟨bb, off + i, none⟩) hbb).trans c1
        have hts := hide (take_succ (l := la) (i := i) hil)
        have hlt2 := hide (lt_all hua'.out hil)
        clear c1 hil
        generalize la.getD i 0 = t at *
        have ct := c1i.out wr hB.out
        cases d with
        | false =>
          by_cases hxt : x ≤ t
          · have hmid := hA.out.mid hxt hlt2.out
            rw [← hts.out] at hmid
            replace hmid := hide hmid
            have cnx : (wr.alloc (.cells #[.int .u64 x] 24)).cell? ⟨wr.heap.size, 0, none⟩ = some (.int .u64 x) := cell_row (heap_alloc_new wr _) 0 rfl
            have hOx : Hid ((wr.alloc (.cells #[.int .u64 x] 24)).ownsRow w.heap.size 24 1 (.slice ao r.length co) r.length (r.map (Value.int .u64))) := owns_alloc24 hO.out _
            by_cases hne : t = x
            · have k2 : (t != x) = false := by simp [hne]
              rw [if_pos hne] at hmid
              replace hne := hide hne
              go_wp2_with (first | (at_builtin; refine wpList_push rfl (.tmp 29) (.tmp 31) rfl w.heap.size _ _ r rfl hOx.out wr.heap.size x rfl cnx (by simp; omega) (by simp; omega) ?_; intro g cap w6 hO6 hg6; have Bw6 : Hid (Below w.heap.size w w6) := (hB.out.alloc (by omega) _).grown hg6 (by simp; omega) (fun k hk => (hOx.out.lt k hk).1); have zw6 := Bw6.out.size; replace hO6 := hide (own_el hO6); clear hg6; have ct6 := c1i.out w6 Bw6.out))
              go_roundw
              case rel => exact ⟨i + 1, true, some ⟨g, 0, none⟩, cap, r ++ [x], by omega, by rw [el_len], rfl, by go_num, hmid, (fun y hy => by
                rcases List.mem_append.1 hy with hy | hy
                · exact hR.out y hy
                · rw [List.mem_singleton.1 hy]; exact hx : ∀ y ∈ r ++ [x], 0 ≤ y ∧ y < 18446744073709551616), hO6, Bw6⟩
              case measure => simp [intOf]; omega
            · have k2 : (t != x) = true := by simpa using hne
              rw [if_neg hne] at hmid
              replace hne := hide hne
              go_wp2_with (first | (at_builtin; refine wpList_push rfl (.tmp 29) (.tmp 31) rfl w.heap.size _ _ r rfl hOx.out wr.heap.size x rfl cnx (by simp; omega) (by simp; omega) ?_; intro g cap w6 hO6 hg6; have Bw6 : Hid (Below w.heap.size w w6) := (hB.out.alloc (by omega) _).grown hg6 (by simp; omega) (fun k hk => (hOx.out.lt k hk).1); have zw6 := Bw6.out.size; replace hO6 := hide (own_el hO6); clear hg6; have ct6 := c1i.out w6 Bw6.out; have cnt : (w6.alloc (.cells #[.int .u64 t] 24)).cell? ⟨w6.heap.size, 0, none⟩ = some (.int .u64 t) := cell_row (heap_alloc_new w6 _) 0 rfl; have hOt : Hid ((w6.alloc (.cells #[.int .u64 t] 24)).ownsRow w.heap.size 24 1 (.slice (some ⟨g, 0, none⟩) (r.length + 1) cap) (r.length + 1) ((r ++ [x]).map (Value.int .u64))) := (by have h := owns_alloc24 hO6.out (.cells #[.int .u64 t] 24); rw [el_len] at h; exact h)) | (at_builtin; refine wpList_push rfl (.tmp 39) (.tmp 44) rfl w.heap.size _ _ (r ++ [x]) rfl hOt.out w6.heap.size t rfl cnt (by omega) (by simp; omega) ?_; intro g2 cap2 w7 hO7 hg7; have Bw7 : Hid (Below w.heap.size w w7) := (Bw6.out.alloc (by omega) _).grown hg7 (by simp; omega) (fun k hk => (hOt.out.lt k hk).1); replace hO7 := hide hO7; clear hg7))
              go_roundw
              case rel => exact ⟨i + 1, true, some ⟨g2, 0, none⟩, cap2, r ++ [x] ++ [t], by omega, by rw [el_len, el_len], rfl, by go_num, hmid, (fun y hy => by
                rcases List.mem_append.1 hy with hy | hy
                · rcases List.mem_append.1 hy with hy | hy
                  · exact hR.out y hy
                  · rw [List.mem_singleton.1 hy]; exact hx
                · rw [List.mem_singleton.1 hy]; exact ⟨c2, c3⟩ : ∀ y ∈ r ++ [x] ++ [t], 0 ≤ y ∧ y < 18446744073709551616), by rw [el_len, el_len]; exact hO7, Bw7⟩
              case measure => simp [intOf]; omega
          · have htx : t < x := by omega
            have hmid := hA.out.next (.inr htx) hlt2.out
            rw [← hts.out] at hmid
            replace hmid := hide hmid
            have k2 : (t != x) = true := by simp; omega
            have cnt : (wr.alloc (.cells #[.int .u64 t] 24)).cell? ⟨wr.heap.size, 0, none⟩ = some (.int .u64 t) := cell_row (heap_alloc_new wr _) 0 rfl
            have hOt : Hid ((wr.alloc (.cells #[.int .u64 t] 24)).ownsRow w.heap.size 24 1 (.slice ao r.length co) r.length (r.map (Value.int .u64))) := owns_alloc24 hO.out _
            go_wp2_with (first | (at_builtin; refine wpList_push rfl (.tmp 39) (.tmp 44) rfl w.heap.size _ _ r rfl hOt.out wr.heap.size t rfl cnt (by simp; omega) (by simp; omega) ?_; intro g cap w6 hO6 hg6; have Bw6 : Hid (Below w.heap.size w w6) := (hB.out.alloc (by omega) _).grown hg6 (by simp; omega) (fun k hk => (hOt.out.lt k hk).1); have zw6 := Bw6.out.size; replace hO6 := hide (own_el hO6); clear hg6))
            go_roundw
            case rel => exact ⟨i + 1, false, some ⟨g, 0, none⟩, cap, r ++ [t], by omega, by rw [el_len], rfl, by go_num, hmid, (fun y hy => by
              rcases List.mem_append.1 hy with hy | hy
              · exact hR.out y hy
              · rw [List.mem_singleton.1 hy]; exact ⟨c2, c3⟩ : ∀ y ∈ r ++ [t], 0 ≤ y ∧ y < 18446744073709551616), hO6, Bw6⟩
            case measure => simp [intOf]; omega
        | true =>
          have hmid := hA.out.next (.inl rfl) hlt2.out
          rw [← hts.out] at hmid
          replace hmid := hide hmid
          have k2 : (t != x) = true := by
            obtain ⟨y, hy, hxy⟩ := hA.out.yes rfl
            have := hlt2.out y hy
            simp; omega
          have cnt : (wr.alloc (.cells #[.int .u64 t] 24)).cell? ⟨wr.heap.size, 0, none⟩ = some (.int .u64 t) := cell_row (heap_alloc_new wr _) 0 rfl
          have hOt : Hid ((wr.alloc (.cells #[.int .u64 t] 24)).ownsRow w.heap.size 24 1 (.slice ao r.length co) r.length (r.map (Value.int .u64))) := owns_alloc24 hO.out _
          go_wp2_with (first | (at_builtin; refine wpList_push rfl (.tmp 39) (.tmp 44) rfl w.heap.size _ _ r rfl hOt.out wr.heap.size t rfl cnt (by simp; omega) (by simp; omega) ?_; intro g cap w6 hO6 hg6; have Bw6 : Hid (Below w.heap.size w w6) := (hB.out.alloc (by omega) _).grown hg6 (by simp; omega) (fun k hk => (hOt.out.lt k hk).1); have zw6 := Bw6.out.size; replace hO6 := hide (own_el hO6); clear hg6))
          go_roundw
          case rel => exact ⟨i + 1, true, some ⟨g, 0, none⟩, cap, r ++ [t], by omega, by rw [el_len], rfl, by go_num, hmid, (fun y hy => by
            rcases List.mem_append.1 hy with hy | hy
            · exact hR.out y hy
            · rw [List.mem_singleton.1 hy]; exact ⟨c2, c3⟩ : ∀ y ∈ r ++ [t], 0 ≤ y ∧ y < 18446744073709551616), hO6, Bw6⟩
          case measure => simp [intOf]; omega
      · obtain rfl : i = na := by omega
        have j1 : ¬ (i : Int) < (i : Int) := by omega
        have hAA := hA.out
        rw [List.take_of_length_le (by rw [hla.out]; exact Nat.le_refl _)] at hAA
        replace hAA := hide hAA
        cases d with
        | true =>
          have fin := hide (retE_own (N := la.length + 1) (M := fun y => y ∈ la ∨ y = x) (p := Up la) hua'.out hO.out hR.out hB.out hAA.out.up (fun y => by rw [hAA.out.mem]; simp) (by simpa using hAA.out.len))
          go_wp2_with fail
          go_ret2
          exact fin.out
        | false =>
          have cnx : (wr.alloc (.cells #[.int .u64 x] 24)).cell? ⟨wr.heap.size, 0, none⟩ = some (.int .u64 x) := cell_row (heap_alloc_new wr _) 0 rfl
          have hOx : Hid ((wr.alloc (.cells #[.int .u64 x] 24)).ownsRow w.heap.size 24 1 (.slice ao r.length co) r.length (r.map (Value.int .u64))) := owns_alloc24 hO.out _
          go_wp2_with (first | (at_builtin; refine wpList_push rfl (.tmp 48) (.tmp 50) rfl w.heap.size _ _ r rfl hOx.out wr.heap.size x rfl cnx (by simp; omega) (by simp; omega) ?_; intro g cap w6 hO6 hg6; have Bw6 : Hid (Below w.heap.size w w6) := (hB.out.alloc (by omega) _).grown hg6 (by simp; omega) (fun k hk => (hOx.out.lt k hk).1); have zw6 := Bw6.out.size; replace hO6 := hide (own_el hO6); clear hg6))
          have hmr : ∀ y, y ∈ r ↔ y ∈ la := fun y => by simpa using hAA.out.mem y
          have fin := retE_own (N := la.length + 1) (M := fun y => y ∈ la ∨ y = x) (p := Up la) hua'.out hO6.out (fun y hy => by
            rcases List.mem_append.1 hy with hy | hy
            · exact hR.out y hy
            · rw [List.mem_singleton.1 hy]; exact hx) Bw6.out (up_push hAA.out.up (fun y hy => hAA.out.no rfl y ((hmr y).1 hy))) (fun y => by simp [hmr y]) (by have := hAA.out.len; simp at this ⊢; omega)
          rw [el_len] at fin
          go_ret2
          exact fin
  · rw [upE_no hua] at C1
    replace hua := hide hua
    go_enter Try.func20, Try.ntmps20
    go_wp2_with fail
    refine C1.out.mono ?_
    rintro e w1 ⟨rfl, B1⟩
    replace B1 := hide B1
    go_wp2_with fail
    go_ret2
    exact ⟨[], none, 0, 0, 2, rfl, hasU_nil _, B1.out, fun k hk => (by cases hk), .inr ⟨hua.out, rfl, rfl⟩⟩
end Go.Proofs.Ythkfbdcocnhebaa
