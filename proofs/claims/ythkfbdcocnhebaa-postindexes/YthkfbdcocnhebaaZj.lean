/-
  The program's Put, Take, List, New, size, Size.
-/
import Derived.Test.YthkfbdcocnhebaaZi
import Derived.Sort.KeysCollected
namespace Go.Proofs.Ythkfbdcocnhebaa
open Go.RowKit Go.Maps Go.WideMaps
set_option linter.unusedVariables false
set_option linter.unusedSimpArgs false

/-- The program's index in block p, over the map in block b: the entries E. -/
structure Ix (w : World) (p b n : Nat) (D : DataW Value) (T : Nat → Prop) (E : List Ent) : Prop where
  box : w.heap[p]? = some (.cells #[.map (some b)] 68 (0, 0))
  np : ¬ T p
  lp : Lp w b n D T (lk E) (gk E)
  ks : ∀ e ∈ E, e.1.size ≤ maxLen
theorem Ix.kept {w w' : World} {p b n : Nat} {D : DataW Value} {T : Nat → Prop} {E : List Ent} (h : Ix w p b n D T E) (hb : But (fun q => ¬ T q ∧ q ≠ p) w w') : Ix w' p b n D T E :=
  ⟨(hb.block p (Array.getElem?_eq_some_iff.1 h.box).1 (fun hh => hh.2 rfl)).trans h.box, h.np, h.lp.kept ⟨hb.os, hb.tape, hb.output, hb.size, fun k hk hn => hb.block k hk (fun hh => hn hh.1)⟩, h.ks⟩
theorem Ix.below {w w' : World} {p b n : Nat} {D : DataW Value} {T : Nat → Prop} {E : List Ent} (h : Ix w p b n D T E) (hb : Below w.heap.size w w') : Ix w' p b n D T E := h.kept (But.of_below hb _)
theorem Ix.lt {w : World} {p b n : Nat} {D : DataW Value} {T : Nat → Prop} {E : List Ent} (h : Ix w p b n D T E) : p < w.heap.size := (Array.getElem?_eq_some_iff.1 h.box).1
/-- How Put and Take end: with the entries E. -/
def IR (w : World) (p b n : Nat) (T : Nat → Prop) (E : List Ent) (e : Ending) (w' : World) : Prop :=
  e = .returned (.int .i64 0) ∧ ∃ D' T', Ix w' p b n D' T' E ∧ But T w w' ∧ ∀ q, T' q → T q ∨ w.heap.size ≤ q
theorem ks_st {E : List Ent} {key : Str} {l : List Int} (h : ∀ e ∈ E, e.1.size ≤ maxLen) (hk : key.size ≤ maxLen) : ∀ e ∈ st E key l, e.1.size ≤ maxLen := fun e he => by
  rcases mem_st he with he | ⟨rfl, _⟩
  · exact h e he
  · exact hk
theorem ix_of {w w' : World} {p b n n' : Nat} {D : DataW Value} {T : Nat → Prop} {E E' : List Ent} {e : Ending} (h : Ix w p b n D T E) (hks : ∀ e ∈ E', e.1.size ≤ maxLen) (hr : LR w b n' T E' e w') : IR w p b n' T E' (.returned (.int .i64 0)) w' := by
  obtain ⟨_, D', T', h1, h2, h3⟩ := hr
  refine ⟨rfl, D', T', ⟨(h2.block p h.lt h.np).trans h.box, fun hp => ?_, h1, hks⟩, h2, h3⟩
  rcases h3 p hp with h4 | h4
  · exact h.np h4
  · have := h.lt; omega
set_option maxHeartbeats 2000000 in
theorem put_any (w : World) (p b n : Nat) (D : DataW Value) (T : Nat → Prop) (E : List Ent) (key : Str) (x : Int) (hk : key.size ≤ maxLen) (hn : n ≤ 1000) (h : Ix w p b n D T E) (hf : Fine E 1000 10000) (hx : 0 ≤ x ∧ x < 18446744073709551616) :
    Calls Try.prog 30 #[.pointer (some ⟨p, 0, none⟩), .string key, .int .u64 x] w (IR w p b (n + 1) T (st E key (addL (lk E key) x))) := by
  have V := hide (void_made w p b h.box)
  have P := hide (lput_any w b n D T E key x hk hn h.lp hf hx)
  have c0 := cell_row h.box 0 (v := .map (some b)) rfl
  have F : Hid (∀ e w', LR w b (n + 1) T (st E key (addL (lk E key) x)) e w' → IR w p b (n + 1) T (st E key (addL (lk E key) x)) (.returned (.int .i64 0)) w') := fun e w' hr => ix_of h (ks_st h.ks hk) hr
  clear h hf
  go_enter Try.func30, Try.ntmps30
  go_wp2_with fail
  refine V.out.mono ?_
  rintro e w1 ⟨rfl, rfl⟩
  go_wp2_with fail
  refine P.out.mono ?_
  intro e w1 hr
  have he := hr.1
  subst he
  replace hr := hide (F.out _ _ hr)
  go_wp2_with fail
  go_ret
  exact hr.out
set_option maxHeartbeats 2000000 in
theorem take_any (w : World) (p b n : Nat) (D : DataW Value) (T : Nat → Prop) (E : List Ent) (key : Str) (x : Int) (hk : key.size ≤ maxLen) (hn : n ≤ 1000) (h : Ix w p b n D T E) (hf : Fine E 1000 10000) :
    Calls Try.prog 32 #[.pointer (some ⟨p, 0, none⟩), .string key, .int .u64 x] w (IR w p b (n + 1) T (st E key (dropL (lk E key) x))) := by
  have V := hide (void_made w p b h.box)
  have P := hide (ltake_any w b n D T E key x hk hn h.lp hf)
  have c0 := cell_row h.box 0 (v := .map (some b)) rfl
  have F : Hid (∀ e w', LR w b (n + 1) T (st E key (dropL (lk E key) x)) e w' → IR w p b (n + 1) T (st E key (dropL (lk E key) x)) (.returned (.int .i64 0)) w') := fun e w' hr => ix_of h (ks_st h.ks hk) hr
  clear h hf
  go_enter Try.func32, Try.ntmps32
  go_wp2_with fail
  refine V.out.mono ?_
  rintro e w1 ⟨rfl, rfl⟩
  go_wp2_with fail
  refine P.out.mono ?_
  intro e w1 hr
  have he := hr.1
  subst he
  replace hr := hide (F.out _ _ hr)
  go_wp2_with fail
  go_ret
  exact hr.out
set_option maxHeartbeats 2000000 in
theorem list_any (w : World) (p b n : Nat) (D : DataW Value) (T : Nat → Prop) (E : List Ent) (key : Str) (hk : key.size ≤ maxLen) (h : Ix w p b n D T E) (hl : (lk E key).length ≤ 1000000) :
    Calls Try.prog 34 #[.pointer (some ⟨p, 0, none⟩), .string key] w (RetU w (lk E key)) := by
  have V := hide (void_made w p b h.box)
  have c0 := cell_row h.box 0 (v := .map (some b)) rfl
  obtain ⟨a, c, ha, HU⟩ := h.lp.hasU hk
  obtain ⟨a', m', c', ha', hL⟩ := look h.lp.map hk
  rw [ha] at ha'
  cases ha'
  obtain ⟨m, hm⟩ : ∃ m, (lk E key).length = m := ⟨_, rfl⟩
  rw [hm] at HU hL hl
  have C := hide (clone_any w a m c (lk E key) HU (by omega))
  clear h HU ha
  go_enter Try.func34, Try.ntmps34
  go_wp2_with fail
  refine V.out.mono ?_
  rintro e w1 ⟨rfl, rfl⟩
  go_wp2_with fail
  refine C.out.mono ?_
  intro e w2 hr
  obtain ⟨a2, n2, c2, rfl, h2⟩ := hr
  replace h2 := hide h2
  go_wp2_with fail
  go_ret
  exact ⟨a2, n2, c2, rfl, h2.out⟩
/-- How many numbers there are in the lists whose keys are no longer to come. -/
def gone (E : List Ent) (left : Lit → Bool) : Nat := ((E.filter (fun e => !left (mkey e.1))).map (fun e => e.2.length)).sum
theorem gone_start {E : List Ent} {left : Lit → Bool} (h : ∀ e ∈ E, left (mkey e.1) = true) : gone E left = 0 := by
  unfold gone
  rw [List.filter_eq_nil_iff.2 (fun e he => by simp [h e he])]
  rfl
theorem gone_end {E : List Ent} {left : Lit → Bool} (h : ∀ z, left z = false) : gone E left = (E.map (fun e => e.2.length)).sum := by
  unfold gone
  rw [List.filter_eq_self.2 (fun e he => by simp [h])]
theorem same_key (s t : Str) : (mkey s).sameKey (mkey t) = decide (s = t) := by
  by_cases h : s = t
  · subst h; rw [WideAt.sameKey_self (mkey_is s)]; simp
  · rw [sameKey_ne (fun e => h (mkey_inj e))]; simp [h]
theorem gone_step {E : List Ent} {left : Lit → Bool} (hu : Ups E) {s : Str} (hl : left (mkey s) = true) : gone E (fun z => left z && !z.sameKey (mkey s)) = gone E left + (lk E s).length := by
  induction E with
  | nil => rfl
  | cons e r ih =>
    rw [Ups, List.pairwise_cons] at hu
    have ih' := ih hu.2
    unfold gone at ih' ⊢
    by_cases h : e.1 = s
    · subst h
      have hno : ∀ x ∈ r, x.1 ≠ e.1 := fun x hx => (kl_ne (hu.1 x hx)).symm
      have e1 : lk r e.1 = [] := by
        by_cases h2 : lk r e.1 = []
        · exact h2
        · exact (hno _ (lk_mem h2) rfl).elim
      rw [e1] at ih'
      simp only [List.length_nil, Nat.add_zero] at ih'
      rw [List.filter_cons_of_pos (by show (!(left (mkey e.1) && !(mkey e.1).sameKey (mkey e.1))) = true; rw [same_key]; simp), List.filter_cons_of_neg (by simp [hl])]
      simp only [List.map_cons, List.sum_cons, lk, if_pos rfl, if_true]
      rw [ih']
      omega
    · simp only [lk, if_neg h]
      by_cases h2 : left (mkey e.1) = true
      · rw [List.filter_cons_of_neg (by show ¬ (!(left (mkey e.1) && !(mkey e.1).sameKey (mkey s))) = true; rw [same_key]; simp [h2, h]), List.filter_cons_of_neg (by simp [h2])]
        exact ih'
      · rw [List.filter_cons_of_pos (by simp [h2]), List.filter_cons_of_pos (by simp [h2])]
        simp only [List.map_cons, List.sum_cons]
        rw [ih']
        omega
theorem gone_le (E : List Ent) (left : Lit → Bool) : gone E left ≤ (E.map (fun e => e.2.length)).sum := by
  unfold gone
  induction E with
  | nil => simp
  | cons e r ih =>
    by_cases h : left (mkey e.1) = true
    · rw [List.filter_cons_of_neg (by simp [h])]; simp only [List.map_cons, List.sum_cons]; omega
    · rw [List.filter_cons_of_pos (by simp [h])]; simp only [List.map_cons, List.sum_cons]; omega
abbrev mkS (t : Option Addr × Nat × Nat) : Value := .slice t.1 t.2.1 t.2.2
theorem sv_shape (v : Value) (y : DataW Value × List MemPlace) (h : sv v = some y) : ∃ c, v = mkS c := by
  obtain ⟨a, n, c, rfl, _⟩ := sv_inv h
  exact ⟨(a, n, c), rfl⟩
set_option maxHeartbeats 2000000 in
set_option maxRecDepth 100000 in
theorem lsize_any (w : World) (b n : Nat) (D : DataW Value) (T : Nat → Prop) (E : List Ent) (h : Lp w b n D T (lk E) (gk E)) (hf : Fine E 1000 10000) (hs : (E.map (fun e => e.2.length)).sum ≤ 1000000000) (hks : ∀ e ∈ E, e.1.size ≤ maxLen) :
    Calls Try.prog 57 #[.map (some b)] w fun e w' => e = .returned (.int .i64 (((E.map (fun e => e.2.length)).sum : Nat) : Int)) ∧ Below w.heap.size w w' := by
  have hown := h.map
  have hbl := hown.lt
  obtain ⟨S, hS⟩ : ∃ S, (E.map (fun e => e.2.length)).sum = S := ⟨_, rfl⟩
  have hstart : gone E (Maps.has D) = 0 := gone_start (fun e he => by
    rw [h.has e.1 (hks e he)]
    have := lk_of_mem hf.ups he
    simp only [decide_eq_true_eq, this]
    exact hf.full e he)
  have hgl : Hid (∀ left, gone E left ≤ S) := fun left => by rw [← hS]; exact gone_le E left
  have hge : Hid (∀ left : Lit → Bool, (∀ z, left z = false) → gone E left = S) := fun left hl => by rw [← hS]; exact gone_end hl
  have hgs : Hid (∀ (left : Lit → Bool) (s : Str), left (mkey s) = true → gone E (fun z => left z && !z.sameKey (mkey s)) = gone E left + (lk E s).length) := fun left s hl => gone_step hf.ups hl
  have hat : Hid (∀ (s : Str) (a : Option Addr) (m c : Nat), s.size ≤ maxLen → (∀ zd, D.atKey (mkey s) zd = .held (.slice a m c)) → m = (lk E s).length) := fun s a m c hsz e => by
    obtain ⟨a', c', ha, _⟩ := h.hasU hsz
    unfold atv at ha
    rw [e] at ha
    simp only at ha
    cases ha
    rfl
  rw [hS] at hs ⊢
  clear h hf hks hS
  go_enter Try.func57, Try.ntmps57
  go_wp2_with (first
    | (at_range; refine wpList_range_own _ rfl _ 66 rfl 9 23 mlaw Try.underlying66 sv b n _ rfl hown ?_; intro w0 hrg0 hg0 hs0))
  go_frame
  go_loopw [3, 5] (fun vt _ wr => ∃ (left : Lit → Bool) (cnt t : Nat), vt = .int .i64 (t : Int) ∧ Hid (wr.ranges Try.prog 9 sv b w.heap.size n D left cnt) ∧ Hid (gone E left = t) ∧ Hid (Below w.heap.size w wr)) (fun _ _ wr => wr.rangeLeft b w.heap.size)
  case atStart =>
    exact ⟨_, _, 0, rfl, hrg0, hstart, (Below.refl _ _).grown hg0 (Nat.le_refl _) (fun j hj => by cases hj)⟩
  case round =>
    obtain ⟨left, cnt, t, rfl, hrg, ht, hnx⟩ := hrel
    have htS := hgl.out left
    rw [ht.out] at htS
    go_wp2_with (at_next; refine wpList_next_ranges _ rfl _ rfl 9 mlaw sv encStr mkS (fun key kl hk => by obtain ⟨x, hx, _⟩ := Maps.keyOf_str Try.underlying9 hk; exact ⟨x, hx⟩) sv_shape b w.heap.size n _ _ _ rfl hrg.out ?_ ?_)
    · intro hc0 hl0
      have htt := hge.out left hl0
      rw [ht.out] at htt
      subst htt
      go_wp2
      go_ret
      exact ⟨rfl, hnx.out⟩
    · intro x a m cc kl yd yp w1 cnt1 hkey hlx hv hatk hrg1 hlt hg1 hs1 hen
      obtain ⟨x', ex, hkl, hxl⟩ := Maps.keyOf_str Try.underlying9 hkey
      have hm : m = (lk E ⟨x'.toArray⟩).length := by
        refine hat.out ⟨x'.toArray⟩ a m cc (by simpa [ByteArray.size] using hxl) (fun zd => ?_)
        have e1 : mkey ⟨x'.toArray⟩ = kl := by rw [hkl]
        rw [e1, hatk zd]
        simp only [mkS, sv_slice] at hv
        cases hv; rfl
      have hk2 : kl = mkey ⟨x'.toArray⟩ := by rw [hkl]
      have hgn := hgs.out left ⟨x'.toArray⟩ (by rw [← hk2]; exact hlx)
      rw [← hm, ht.out, ← hk2] at hgn
      have htm := hgl.out (fun z => left z && !z.sameKey kl)
      rw [hgn] at htm
      have i1 : (t : Int) + (m : Int) ≤ 1000000000 := by omega
      obtain ⟨t2, ht2⟩ : ∃ t2, t + m = t2 := ⟨_, rfl⟩
      have i2 : (t : Int) + (m : Int) = (t2 : Int) := by omega
      have i3 : (t2 : Int) ≤ 1000000000 := by omega
      rw [ht2] at hgn
      replace hgn := hide hgn
      have B1 : Hid (Below w.heap.size w w1) := hnx.out.grown hg1 hnx.out.size (fun j hj => by cases hj; exact Nat.le_refl _)
      have hml : Hid (w1.rangeLeft b w.heap.size < wr.rangeLeft b w.heap.size) := by
        rw [hrg1.left_eq, hrg.out.left_eq]; exact hlt
      replace hrg1 := hide hrg1
      clear ex hkl hm hk2 hkey hlx hv hatk hg1 hs1 htm hlt
      simp only [mkS] at hen ⊢
      go_wp2_with fail
      go_roundw
      case rel => exact ⟨_, cnt1, t2, rfl, hrg1, hgn, B1⟩
      case measure => exact hml.out
set_option maxHeartbeats 2000000 in
theorem size_any (w : World) (p b n : Nat) (D : DataW Value) (T : Nat → Prop) (E : List Ent) (h : Ix w p b n D T E) (hf : Fine E 1000 10000) (hs : (E.map (fun e => e.2.length)).sum ≤ 1000000000) :
    Calls Try.prog 37 #[.pointer (some ⟨p, 0, none⟩)] w fun e w' => e = .returned (.int .i64 (((E.map (fun e => e.2.length)).sum : Nat) : Int)) ∧ Below w.heap.size w w' := by
  have V := hide (void_made w p b h.box)
  have c0 := cell_row h.box 0 (v := .map (some b)) rfl
  have P := hide (lsize_any w b n D T E h.lp hf hs h.ks)
  generalize (E.map (fun e => e.2.length)).sum = S at *
  clear h hf
  go_enter Try.func37, Try.ntmps37
  go_wp2_with fail
  refine V.out.mono ?_
  rintro e w1 ⟨rfl, rfl⟩
  go_wp2_with fail
  refine P.out.mono ?_
  rintro e w1 ⟨rfl, hB⟩
  replace hB := hide hB
  go_wp2_with fail
  go_ret
  exact ⟨rfl, hB.out⟩
end Go.Proofs.Ythkfbdcocnhebaa
