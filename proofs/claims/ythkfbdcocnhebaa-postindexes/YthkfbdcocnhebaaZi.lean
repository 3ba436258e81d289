/-
  The program's put, take, Put, Take, List, New.
-/
import Derived.Test.YthkfbdcocnhebaaZh
namespace Go.Proofs.Ythkfbdcocnhebaa
open Go.RowKit Go.Maps Go.WideMaps
set_option linter.unusedVariables false
set_option linter.unusedSimpArgs false

theorem Lp.mono {w : World} {b n n' : Nat} {D : DataW Value} {T : Nat → Prop} {f : Str → List Int} {g : Str → Bool} (h : Lp w b n D T f g) (hn : n ≤ n') : Lp w b n' D T f g :=
  ⟨h.map.mono hn, h.own, h.rng, h.has, h.apart, h.tb, h.tr, h.tl⟩
abbrev gk (E : List Ent) : Str → Bool := fun s => decide (lk E s ≠ [])
theorem lk_put {E : List Ent} {N M : Nat} (hf : Fine E N M) (key : Str) (l : List Int) (s : Str) : lk (st E key l) s = upd (lk E) key l s := by
  rw [lk_st hf.full]; rfl
theorem gk_put {E : List Ent} {N M : Nat} (hf : Fine E N M) (key : Str) (l : List Int) (s : Str) : gk (st E key l) s = upd (gk E) key (decide (l ≠ [])) s := by
  unfold gk upd
  rw [lk_st hf.full]
  by_cases h : s = key
  · subst h; simp
  · simp [h]
/-- How put and take end. -/
def LR (w : World) (b n : Nat) (T : Nat → Prop) (E : List Ent) (e : Ending) (w' : World) : Prop :=
  e = .returned (.tuple #[]) ∧ ∃ D' T', Lp w' b n D' T' (lk E) (gk E) ∧ But T w w' ∧ ∀ q, T' q → T q ∨ w.heap.size ≤ q
theorem grown_but {w w' : World} {r : Option Nat} {T : Nat → Prop} (h : w.grownBy w' r) (hr : ∀ q, r = some q → T q) : But T w w' := ⟨h.os, h.tape, h.output, h.size, fun k hk hn => h.block k hk (fun e => hn (hr k e.symm))⟩
set_option maxHeartbeats 4000000 in
set_option maxRecDepth 100000 in
theorem lput_any (w : World) (b n : Nat) (D : DataW Value) (T : Nat → Prop) (E : List Ent) (key : Str) (x : Int) (hk : key.size ≤ maxLen) (hn : n ≤ 1000) (h : Lp w b n D T (lk E) (gk E)) (hf : Fine E 1000 10000) (hx : 0 ≤ x ∧ x < 18446744073709551616) :
    Calls Try.prog 52 #[.map (some b), .string key, .int .u64 x] w (LR w b (n + 1) T (st E key (addL (lk E key) x))) := by
  have hu := hf.lk_up key
  have hll := hf.lk_len key
  obtain ⟨a, c, ha, HU⟩ := h.hasU hk
  obtain ⟨a', m', c', ha', hL⟩ := look h.map hk
  rw [ha] at ha'
  cases ha'
  obtain ⟨l, hl⟩ : ∃ l, lk E key = l := ⟨_, rfl⟩
  obtain ⟨m, hm⟩ : ∃ m, l.length = m := ⟨_, rfl⟩
  rw [hl] at ha HU hu hll hL ⊢
  rw [hm] at ha HU hL hll
  have S := hide (search_any w a m c l x HU hu (by omega))
  by_cases hin : x ∈ l
  · have hd : decide (x ∈ l) = true := decide_eq_true hin
    have fin : Hid (LR w b (n + 1) T (st E key (addL l x)) (.returned (.tuple #[])) w) := by
      rw [add_in hu hin]
      refine ⟨rfl, D, T, (h.mono (Nat.le_succ n)).congr (fun s _ => ?_) (fun s _ => ?_), But.refl _ _, fun q hq => .inl hq⟩
      · rw [lk_put hf]; unfold upd; split
        · subst_vars; rfl
        · rfl
      · rw [gk_put hf]; unfold upd; split
        · subst_vars; rfl
        · rfl
    rw [hd] at S
    clear h hf HU ha hu hin hd
    go_enter Try.func52, Try.ntmps52
    go_wp2_with fail
    refine S.out.mono ?_
    rintro e w1 ⟨rfl, rfl⟩
    go_wp2_with fail
    go_end0
    exact fin.out
  · have hd : decide (x ∈ l) = false := decide_eq_false hin
    obtain ⟨i, hi⟩ : ∃ i, pos l x = i := ⟨_, rfl⟩
    have him : i ≤ m := by
      rw [← hi, ← hm]
      unfold pos
      exact List.length_filter_le _ _
    have hnew := heap_alloc_new w (.cells #[.int .u64 x] 24)
    have hown := h.own key hk
    rw [hl, ha, hm] at hown
    have I := hide (ins_any (w.alloc (.cells #[.int .u64 x] 24)) 0 w.heap.size m i (.slice a m c) l x (hown.alloc _) (Nat.zero_le _) him (by omega) hnew (fun e => by
      have := h.tl _ (h.tr key hk _ (by rw [ha]; exact e)); omega))
    have hli : Hid (l.take i ++ [x] ++ l.drop i = addL l x) := by rw [← hi]; exact ins_pos hu hin
    rw [hd, hi] at S
    rw [hli.out] at I
    have fin : Hid (∀ (v : Value) (w1 : World), w1.ownsRow 0 24 1 v (addL l x).length ((addL l x).map (Value.int .u64)) → (w.alloc (.cells #[.int .u64 x] 24)).grownBy w1 (Value.slice a m c).ownBlock → (v.ownBlock = (Value.slice a m c).ownBlock ∨ ∃ g, v.ownBlock = some g ∧ (w.alloc (.cells #[.int .u64 x] 24)).heap.size ≤ g) →
        ∃ w2, (Instr.mapUpdate 66 (.map (some b)) (.string key) v).run Try.prog w1 = .ok () w2 ∧ LR w b (n + 1) T (st E key (addL l x)) (.returned (.tuple #[])) w2) := by
      intro v w1 h1 h2 h3
      have hg : w.grownBy w1 (Value.slice a m c).ownBlock := (World.grownBy_alloc w _ _).trans h2
      obtain ⟨w2, hrun, hp, hg2, _⟩ := h.put hk (w1 := w1) (v := v) (l := addL l x) (by rw [ha]; exact hg) h1 (fun y hy => by
        rcases (mem_addL l x y).1 hy with hy | rfl
        · exact h.rng key hk y (by rw [hl]; exact hy)
        · exact hx) (by
        rw [ha]
        rcases h3 with h3 | ⟨q, h3, h4⟩
        · exact .inl h3
        · exact .inr ⟨q, h3, by simp at h4; omega⟩) (by unfold maxLen; omega)
      refine ⟨w2, hrun, rfl, _, _, hp.congr (fun s _ => (lk_put hf _ _ s).symm) (fun s _ => ?_), ?_, fun q hq => ?_⟩
      · rw [gk_put hf, decide_eq_true (addL_ne l x)]
      · refine But.trans (grown_but (T := T) hg (fun q hq => h.tr key hk q (by rw [ha]; exact hq))) (grown_but (T := T) hg2 (fun q hq => by cases hq; exact h.tb)) (fun _ _ e => e)
      · rcases hq with hq | hq
        · exact .inl hq
        · rcases h3 with h3 | ⟨r, h3, h4⟩
          · exact .inl (h.tr key hk q (by rw [ha, ← h3]; exact hq))
          · rw [h3] at hq
            cases hq
            simp at h4
            exact .inr (by omega)
    clear h hf HU ha hu hin hd hown
    go_enter Try.func52, Try.ntmps52
    go_wp2_with fail
    refine S.out.mono ?_
    rintro e w1 ⟨rfl, rfl⟩
    go_wp2_with fail
    refine I.out.mono ?_
    rintro e w2 ⟨v, rfl, h1, h2, h3⟩
    rw [List.length_map] at h1
    obtain ⟨w3, hM, hF⟩ := fin.out v w2 h1 h2 h3
    replace hF := hide hF
    clear h1 h2 h3
    go_wp2_with fail
    go_end0
    exact hF.out
set_option maxHeartbeats 4000000 in
set_option maxRecDepth 100000 in
theorem ltake_any (w : World) (b n : Nat) (D : DataW Value) (T : Nat → Prop) (E : List Ent) (key : Str) (x : Int) (hk : key.size ≤ maxLen) (hn : n ≤ 1000) (h : Lp w b n D T (lk E) (gk E)) (hf : Fine E 1000 10000) :
    Calls Try.prog 54 #[.map (some b), .string key, .int .u64 x] w (LR w b (n + 1) T (st E key (dropL (lk E key) x))) := by
  have hu := hf.lk_up key
  have hll := hf.lk_len key
  obtain ⟨a, c, ha, HU⟩ := h.hasU hk
  obtain ⟨a', m', c', ha', hL⟩ := look h.map hk
  rw [ha] at ha'
  cases ha'
  obtain ⟨l, hl⟩ : ∃ l, lk E key = l := ⟨_, rfl⟩
  obtain ⟨m, hm⟩ : ∃ m, l.length = m := ⟨_, rfl⟩
  rw [hl] at ha HU hu hll hL ⊢
  rw [hm] at ha HU hL hll
  have S := hide (search_any w a m c l x HU hu (by omega))
  by_cases hin : x ∈ l
  · have hd : decide (x ∈ l) = true := decide_eq_true hin
    obtain ⟨i, hi⟩ : ∃ i, pos l x = i := ⟨_, rfl⟩
    have hli : Hid (l.take i ++ l.drop (i + 1) = dropL l x) := by rw [← hi]; exact del_pos hu hin
    have him : i < m := by
      rw [← hm]
      rcases Nat.lt_or_ge i l.length with h1 | h1
      · exact h1
      · exfalso
        have := hli.out
        rw [List.take_of_length_le h1, List.drop_eq_nil_of_le (by omega), List.append_nil] at this
        have h2 : x ∈ dropL l x := this ▸ hin
        exact ((mem_dropL l x x).1 h2).2 rfl
    have hown := h.own key hk
    rw [hl, ha, hm] at hown
    have I := hide (del_any w 0 m i (.slice a m c) l hown him)
    rw [hd, hi] at S
    rw [hli.out] at I
    have hw1 : wrap64 ((i : Int) + 1) = ((i + 1 : Nat) : Int) := by rw [w64 _ (by omega)]; omega
    obtain ⟨i1, hi1⟩ : ∃ i1 : Nat, i + 1 = i1 := ⟨_, rfl⟩
    have hw2 : (i : Int) + 1 = (i1 : Int) := by omega
    have hib : (i1 : Int) ≤ 1000000 := by omega
    rw [hi1] at I
    have fin : Hid (∀ (v : Value) (w1 : World), w1.ownsRow 0 24 1 v (dropL l x).length ((dropL l x).map (Value.int .u64)) → w.grownBy w1 (Value.slice a m c).ownBlock → (v.ownBlock = (Value.slice a m c).ownBlock ∨ ∃ g, v.ownBlock = some g ∧ w.heap.size ≤ g) →
        ∃ w2 a2 c2, (Instr.mapUpdate 66 (.map (some b)) (.string key) v).run Try.prog w1 = .ok () w2 ∧ (Instr.lookup 66 (.map (some b)) (.string key) false).run Try.prog w2 = .ok (.slice a2 (dropL l x).length c2) w2 ∧ ((dropL l x ≠ [] ∧ LR w b (n + 1) T (st E key (dropL l x)) (.returned (.tuple #[])) w2) ∨
          (dropL l x = [] ∧ ∀ ty, ∃ w3, (Builtin.delete_ #[66, 9] ty #[.map (some b), .string key]).run Try.prog w2 = .ok (.tuple #[]) w3 ∧ LR w b (n + 1) T (st E key (dropL l x)) (.returned (.tuple #[])) w3))) := by
      intro v w1 h1 h2 h3
      obtain ⟨w2, hrun, hp, hg2, hat⟩ := h.put hk (w1 := w1) (v := v) (l := dropL l x) (by rw [ha]; exact h2) h1 (fun y hy => h.rng key hk y (by rw [hl]; exact ((mem_dropL l x y).1 hy).1)) (by rw [ha]; exact h3) (by unfold maxLen; omega)
      obtain ⟨a2, c2, hq1, _⟩ := hp.hasU hk
      obtain ⟨a3, m3, c3, hq2, hrun2⟩ := look hp.map hk
      rw [hq1] at hq2
      cases hq2
      rw [upd_same] at hrun2
      have b1 : But T w w2 := But.trans (grown_but (T := T) h2 (fun q hq => h.tr key hk q (by rw [ha]; exact hq))) (grown_but (T := T) hg2 (fun q hq => by cases hq; exact h.tb)) (fun _ _ e => e)
      have t1 : ∀ q, (T q ∨ v.ownBlock = some q) → T q ∨ w.heap.size ≤ q := fun q hq => by
        rcases hq with hq | hq
        · exact .inl hq
        · rcases h3 with h3 | ⟨r, h3, h4⟩
          · exact .inl (h.tr key hk q (by rw [ha, ← h3]; exact hq))
          · rw [h3] at hq
            cases hq
            exact .inr h4
      refine ⟨w2, a2, c2, hrun, hrun2, ?_⟩
      by_cases he : dropL l x = []
      · refine .inr ⟨he, fun ty => ?_⟩
        obtain ⟨w3, hrun3, hp3, hg3⟩ := hp.del hk ty
        refine ⟨w3, hrun3, rfl, _, _, hp3.congr (fun s _ => ?_) (fun s _ => ?_), b1.trans (grown_but (T := T) hg3 (fun q hq => by cases hq; exact h.tb)) (fun _ _ e => e), t1⟩
        · rw [lk_put hf, he]; unfold upd; split <;> rfl
        · rw [gk_put hf, he]; unfold upd; split <;> simp
      · refine .inl ⟨he, rfl, _, _, hp.congr (fun s _ => (lk_put hf _ _ s).symm) (fun s _ => ?_), b1, t1⟩
        rw [gk_put hf, decide_eq_true he]
    have hdl : (dropL l x).length ≤ 10000 := Nat.le_trans (dropL_len l x) (by omega)
    have hz : ∀ m, (dropL l x).length = m → (dropL l x = [] → m = 0) ∧ (dropL l x ≠ [] → 0 < m) := fun m hm => by
      subst hm
      exact ⟨fun h => by rw [h]; rfl, fun h => List.length_pos_iff.2 h⟩
    obtain ⟨dl, hdl2⟩ : ∃ dl, (dropL l x).length = dl := ⟨_, rfl⟩
    rw [hdl2] at hdl
    replace hz := hide (hz dl hdl2)
    clear h hf HU ha hu hin hd hown hi hli hll
    go_enter Try.func54, Try.ntmps54
    go_wp2_with fail
    refine S.out.mono ?_
    rintro e w1 ⟨rfl, rfl⟩
    go_wp2_with fail
    refine I.out.mono ?_
    rintro e w2 ⟨v, rfl, h1, h2, h3⟩
    rw [List.length_map] at h1
    obtain ⟨w3, a2, c2, hM, hL2, hF⟩ := fin.out v w2 h1 h2 h3
    rw [hdl2] at hL2
    clear h1 h2 h3
    rcases hF with ⟨he, hF⟩ | ⟨he, hF⟩
    · have hp := hz.out.2 he
      replace hF := hide hF
      clear he
      go_wp2_with fail
      go_end0
      exact hF.out
    · have hp := hz.out.1 he
      subst hp
      obtain ⟨w4, hD, hF⟩ := hF 0
      replace hF := hide hF
      clear he
      go_wp2_with fail
      go_end0
      exact hF.out
  · have hd : decide (x ∈ l) = false := decide_eq_false hin
    have fin : Hid (LR w b (n + 1) T (st E key (dropL l x)) (.returned (.tuple #[])) w) := by
      rw [drop_out hin]
      refine ⟨rfl, D, T, (h.mono (Nat.le_succ n)).congr (fun s _ => ?_) (fun s _ => ?_), But.refl _ _, fun q hq => .inl hq⟩
      · rw [lk_put hf]; unfold upd; split
        · subst_vars; rfl
        · rfl
      · rw [gk_put hf]; unfold upd; split
        · subst_vars; rfl
        · rfl
    rw [hd] at S
    clear h hf HU ha hu hin hd
    go_enter Try.func54, Try.ntmps54
    go_wp2_with fail
    refine S.out.mono ?_
    rintro e w1 ⟨rfl, rfl⟩
    go_wp2_with fail
    go_end0
    exact fin.out
end Go.Proofs.Ythkfbdcocnhebaa
