/-
  with.
-/
import Derived.Test.YtbinnpadmajgpaaL
import Derived.Test.YtbinnpadmajgpaaJ
import Derived.Deep.AppendLies
namespace Go.Proofs.Ytbinnpadmajgpaa
open Go.RowKit Go.Shelf
set_option linter.unusedVariables false
set_option linter.unusedSimpArgs false
set_option maxRecDepth 100000

/-- append of one text to a row of one's own. -/
theorem wpList_pushS {w : World} {ops : Array Oper} {rest : List Oper} {o : Oper} {a : Act} {Q : Exit → Act → World → Prop} (hgd : o.guard = none) (s x : Operand)
    (ho : o.op = .call { callee := .builtin .append, args := #[s, x], argTypes := #[25, 25] }) (base : Nat) (v : Value) (k : Nat) (l : List Tx) (hs : a.eval s = v) (hown : w.ownsRow base 9 1 v k (l.map encStr))
    (ax : Nat) (b : Tx) (hx : a.eval x = .slice (some ⟨ax, 0, none⟩) 1 1) (hc : w.cell? ⟨ax, 0, none⟩ = some (encStr b)) (hb : k + 1 ≤ 10000000) (hbase : base ≤ w.heap.size)
    (h : ∀ g cap w', w'.ownsRow base 9 1 (.slice (some ⟨g, 0, none⟩) (k + 1) cap) (k + 1) ((l ++ [b]).map encStr) → w.grownBy w' v.ownBlock → wpList Try.prog ops Q rest (a.put o.dst (.slice (some ⟨g, 0, none⟩) (k + 1) cap)) w') :
    wpList Try.prog ops Q (o :: rest) a w := by
  obtain ⟨i0, hi, hz0, hz1, hz2⟩ := info_parts info9
  refine wpList_append_lies w hgd s x 25 ho base 9 i0 (.string ByteArray.empty) 1 16 Try.underlying25 hi hz0 hz1 hz2 rfl (by decide) v k (l.map encStr) hs hown ⟨ax, 0, none⟩ 1 1 ([b].map encStr) hx
    (by simp) ?_ (by simp [Value.oneCell']) (by omega) (by unfold maxLen; omega) (by omega) hbase _ rfl ?_
  · intro j u hj
    have hj0 : j = 0 := by
      rcases Nat.lt_or_ge j 1 with h | h
      · omega
      · rw [List.getElem?_eq_none (by simpa using h)] at hj; cases hj
    subst hj0
    simp at hj
    subst hj
    rw [add_plain]; exact hc
  · intro g cap w' h1 h2 h3 _
    exact h g cap w' (by simpa using h1) h2
theorem wrap_small {k : Nat} (h : k ≤ 1000000) : IntKind.i64.wrap (k : Int) = (k : Int) := by
  rw [IntKind.wrap_i64]
  omega
theorem txt_str {x : List Int} : strOfNums x = ⟨(txt x).toArray⟩ := by
  unfold strOfNums txt
  first | rfl | (apply ByteArray.ext; simp)
set_option maxHeartbeats 2000000 in
theorem with_any (w : World) (base : Nat) (v : Value) (n : Nat) (L : List Tx) (hl : L.length = n) (hv : w.ownsRow base 9 1 v n (L.map encStr)) (hb : base ≤ w.heap.size) (hn : n ≤ 1000000) (hL : (lastT [] L).length ≤ 256) (k : Nat) (hk : k < 18446744073709551616) (ax : Option Addr) (nx cx : Nat) (x : List Int) (hx : V.Has w ax nx cx x) (hxn : nx ≤ 65536) :
    Calls Try.prog 28 #[v, .agg #[.int .u64 (k : Int), .slice ax nx cx]] w fun e w' => ((∃ M g c, wth L (k, x) = some M ∧ e = .returned (.tuple #[.slice (some ⟨g, 0, none⟩) (n + 1) c, .bool true]) ∧ w'.ownsRow base 9 1 (.slice (some ⟨g, 0, none⟩) (n + 1) c) (n + 1) (M.map encStr)) ∨ (wth L (k, x) = none ∧ e = .returned (.tuple #[.slice none 0 0, .bool false]))) ∧ Below base w w' := by
  obtain ⟨a0, c0, rfl, H⟩ := hasS_of_owns hv
  have B0 : Hid (Below w.heap.size w (w.alloc (.cells #[.int .u64 (k : Int), .slice ax nx cx] 55))) := (Below.refl _ w).alloc (Nat.le_refl _) _
  have X0 := hide (BoxP.new w (k : Int) (.slice ax nx cx))
  have hx0 := hide (hx.kept B0.out (Nat.le_refl _))
  have O0 := hide (ownsRow_keep hv B0.out)
  have LA := hide (last_any a0 n c0 L _ (H.kept B0.out (Nat.le_refl _)) (by omega))
  have k64 : (k : Int) < 18446744073709551616 := by omega
  obtain ⟨W0, hW0⟩ : ∃ W0, w.alloc (.cells #[.int .u64 (k : Int), .slice ax nx cx] 55) = W0 := ⟨_, rfl⟩
  have z0 := hide (show W0.heap.size = w.heap.size + 1 by rw [← hW0]; simp)
  rw [hW0] at B0 X0 hx0 O0 LA
  obtain ⟨t, ht⟩ : ∃ t, lastT [] L = t := ⟨_, rfl⟩
  rw [ht] at hL LA
  obtain ⟨m, hm⟩ : ∃ m, t.length = m := ⟨_, rfl⟩
  have st : (⟨t.toArray⟩ : ByteArray).size = m := by rw [str_size, hm]
  have m1 : m ≤ 256 := by omega
  have i1 : (m : Int) ≤ 256 := by omega
  have hxl := hide hx.hlen
  have hxb := hide hx.bytes
  have w64m : IntKind.u64.wrap (m : Int) = (m : Int) := by rw [IntKind.wrap_u64]; omega
  clear hx hv H
  replace hm := hide hm
  by_cases c1 : k ≤ m
  · have hp1 := X0.out.1
    obtain ⟨q0, q1⟩ := hp1
    have j1 : (k : Int) ≤ (m : Int) := by omega
    have j2 : ¬ ((m : Int) < (k : Int)) := by omega
    obtain ⟨s, hs⟩ : ∃ s, t.take k ++ txt x = s := ⟨_, rfl⟩
    obtain ⟨S1, hS1⟩ : ∃ S1 : ByteArray, (⟨t.toArray⟩ : ByteArray).extract 0 k = S1 := ⟨_, rfl⟩
    obtain ⟨S2, hS2⟩ : ∃ S2 : ByteArray, strOfNums x = S2 := ⟨_, rfl⟩
    have hS1' : S1 = ⟨(t.take k).toArray⟩ := by rw [← hS1, str_cut]; simp
    have hS2' : S2 = ⟨(txt x).toArray⟩ := by rw [← hS2, txt_str]
    have hsum : S1 ++ S2 = ⟨s.toArray⟩ := by rw [hS1', hS2', ← hs]; apply ByteArray.ext; simp
    have hsz : S1.size + S2.size ≤ 9223372036854775807 := by rw [hS1', hS2', str_size, str_size, List.length_take, txt_len, hxl.out]; omega
    have rs : ∀ z, (convert 23 9 (.slice ax nx cx)).run Try.prog (W0.drewN z) = .ok (.string S2) (W0.drewN z) := fun z => by
      have := V.run_string (hx0.out.kept (below_drewN (Below.refl _ W0) z) (Nat.le_refl _))
      rwa [hS2] at this
    have hsl : s.length = k + nx := by rw [← hs, List.length_append, List.length_take, txt_len, hxl.out, Nat.min_eq_left (by have := hm.out; omega)]
    have ssz : (⟨s.toArray⟩ : ByteArray).size = k + nx := by rw [str_size, hsl]
    replace hW0 := hide hW0
    replace hs := hide hs
    replace hS2 := hide hS2
    replace hS1' := hide hS1'
    replace hS2' := hide hS2'
    replace hl := hide hl
    replace ht := hide ht
    go_enter Try.func28, Try.ntmps28
    go_wp2_with fail
    rw [hW0.out]
    refine LA.out.mono ?_
    rintro e w1 ⟨rfl, rfl⟩
    go_upto_if 16 with fail
    refine wp_cond_false (congrArg Value.bool (decide_eq_false (by omega))) ?_
    replace j1 := hide j1
    replace j2 := hide j2
    go_wp2_with fail
    go_quiet (fail)
    obtain ⟨w2, hw2⟩ : ∃ w2, w1.drewN nq = w2 := ⟨_, rfl⟩
    have B2 : Below w1.heap.size w1 w2 := by rw [← hw2]; exact below_drewN (Below.refl _ _) nq
    rw [hw2]
    have b2 := hide (B0.out.trans (B2.mono B0.out.size))
    obtain ⟨⟨p0, p1⟩, p2, p3, p4⟩ := X0.out.kept B2 X0.out.2.2.2
    have O2 := hide (ownsRow_keep O0.out B2)
    have TL := hide (fun w => tooLong_any s w)
    have CQ := hide (fun w => common_q t s w (by omega) (by omega))
    have hn0 : n = 0 ↔ L = [] := by
      have := hl.out
      constructor
      · rintro rfl; exact List.eq_nil_of_length_eq_zero this
      · rintro rfl; simpa using this.symm
    have hw : wth L (k, x) = if s.length ≤ 256 ∧ (L = [] ∨ t < s) ∧ cmn t s = k then some (L ++ [s]) else none := by
      unfold wth
      simp only [ht.out, hs.out]
      have hmm := hm.out
      by_cases q : s.length ≤ 256 ∧ (L = [] ∨ t < s) ∧ cmn t s = k
      · rw [if_pos q, if_pos ⟨by omega, q⟩]
      · rw [if_neg q, if_neg (fun h => q h.2)]
    clear rs q0 q1 B2 hw2 LA ssz hsum hsz st
    replace hsl := hide hsl
    replace hw := hide hw
    by_cases c2 : 256 < s.length
    · have d2 : decide (256 < s.length) = true := decide_eq_true c2
      rw [d2] at TL
      have hw := hide (hw.out.trans (if_neg (fun h => by omega)))
      replace c2 := hide c2
      replace d2 := hide d2
      by_cases c0 : n = 0
      · skip
        have hL0 := hn0.1 c0
        have e0 : ((n : Int) == 0) = true := by simp [c0]
        replace c0 := hide c0
        replace hL0 := hide hL0
        clear O2
        go_wp2_with fail
        go_quiet ((first | (go_at_call 18; exact Calls.quiet_of_same (TL.out _)) | (go_at_call 37; exact Calls.quiet_of (CQ.out _))))
        go_wp2_with fail
        go_ret2
        exact ⟨.inr ⟨hw.out, rfl⟩, below_drewN (b2.out.mono hb) _⟩
      · by_cases c3 : t < s
        · skip
          have e0 : ((n : Int) == 0) = false := by simp; omega
          have e1 : Op.bytesLess t s = true := by rw [bytesLess_eq]; exact decide_eq_true c3
          replace c3 := hide c3
          clear O2
          go_wp2_with fail
          go_quiet ((first | (go_at_call 18; exact Calls.quiet_of_same (TL.out _)) | (go_at_call 37; exact Calls.quiet_of (CQ.out _))))
          go_wp2_with fail
          go_ret2
          exact ⟨.inr ⟨hw.out, rfl⟩, below_drewN (b2.out.mono hb) _⟩
        · skip
          have e0 : ((n : Int) == 0) = false := by simp; omega
          have e1 : Op.bytesLess t s = false := by rw [bytesLess_eq]; exact decide_eq_false c3
          replace c3 := hide c3
          clear O2
          go_wp2_with fail
          go_quiet ((first | (go_at_call 18; exact Calls.quiet_of_same (TL.out _)) | (go_at_call 37; exact Calls.quiet_of (CQ.out _))))
          go_wp2_with fail
          go_ret2
          exact ⟨.inr ⟨hw.out, rfl⟩, below_drewN (b2.out.mono hb) _⟩
    · have d2 : decide (256 < s.length) = false := decide_eq_false c2
      rw [d2] at TL
      have c2b : s.length ≤ 256 := by omega
      replace d2 := hide d2
      by_cases c0 : n = 0
      · skip
        by_cases c4 : cmn t s = k
        · have hw := hide (hw.out.trans (if_pos ⟨c2b, (.inl (hn0.1 c0)), c4⟩))
          rw [c4] at CQ
          replace c4 := hide c4
          replace c2b := hide c2b
          replace c2 := hide c2
          have e5 : IntKind.i64.wrap (k : Int) = (k : Int) := wrap_small (by have := j1.out; omega)
          have hL0 := hn0.1 c0
          have e0 : ((n : Int) == 0) = true := by simp [c0]
          replace c0 := hide c0
          replace hL0 := hide hL0
          go_wp2_with fail
          go_quiet ((first | (go_at_call 18; exact Calls.quiet_of_same (TL.out _)) | (go_at_call 37; exact Calls.quiet_of (CQ.out _))))
          have O3 := hide (ownsRow_keep O2.out (below_drewN (Below.refl _ w2) nq))
          obtain ⟨w3, hw3⟩ : ∃ w3, w2.drewN nq = w3 := ⟨_, rfl⟩
          rw [hw3] at O3 ⊢
          have b3 : Hid (Below w.heap.size w w3) := by show Below _ _ _; rw [← hw3]; exact below_drewN b2.out nq
          clear hw3 O2 b2
          go_wp2_with (first
            | (refine wpList_pushS rfl (.tmp 48) (.tmp 50) rfl base _ n L rfl (O3.out.alloc _) w3.heap.size s rfl (by simp) (by omega) (by have := b3.out.size; simp; omega) ?_; intro g cap w4 O4 G4))
          have b4 : Below base w w4 := ((b3.out.mono hb).alloc (by have := b3.out.size; omega) _).grown G4 (by have := b3.out.size; simp; omega) (fun j e => (O3.out.lt j e).1)
          replace O4 := hide O4
          replace b4 := hide b4
          clear G4
          go_wp2_with fail
          go_ret2
          exact ⟨.inl ⟨_, g, cap, hw.out, rfl, O4.out⟩, b4.out⟩
        · have hw := hide (hw.out.trans (if_neg (fun h => c4 h.2.2)))
          have e4 : (((cmn t s : Nat) : Int) != (k : Int)) = true := by simp; omega
          generalize cmn t s = cc at CQ c4 e4
          replace c4 := hide c4
          replace c2b := hide c2b
          replace c2 := hide c2
          have e5 : IntKind.i64.wrap (k : Int) = (k : Int) := wrap_small (by have := j1.out; omega)
          have hL0 := hn0.1 c0
          have e0 : ((n : Int) == 0) = true := by simp [c0]
          replace c0 := hide c0
          replace hL0 := hide hL0
          clear O2
          go_wp2_with fail
          go_quiet ((first | (go_at_call 18; exact Calls.quiet_of_same (TL.out _)) | (go_at_call 37; exact Calls.quiet_of (CQ.out _))))
          go_wp2_with fail
          go_ret2
          exact ⟨.inr ⟨hw.out, rfl⟩, below_drewN (b2.out.mono hb) _⟩
      · by_cases c3 : t < s
        · skip
          by_cases c4 : cmn t s = k
          · have hw := hide (hw.out.trans (if_pos ⟨c2b, (.inr c3), c4⟩))
            rw [c4] at CQ
            replace c4 := hide c4
            replace c2b := hide c2b
            replace c2 := hide c2
            have e5 : IntKind.i64.wrap (k : Int) = (k : Int) := wrap_small (by have := j1.out; omega)
            have e0 : ((n : Int) == 0) = false := by simp; omega
            have e1 : Op.bytesLess t s = true := by rw [bytesLess_eq]; exact decide_eq_true c3
            replace c3 := hide c3
            go_wp2_with fail
            go_quiet ((first | (go_at_call 18; exact Calls.quiet_of_same (TL.out _)) | (go_at_call 37; exact Calls.quiet_of (CQ.out _))))
            have O3 := hide (ownsRow_keep O2.out (below_drewN (Below.refl _ w2) nq))
            obtain ⟨w3, hw3⟩ : ∃ w3, w2.drewN nq = w3 := ⟨_, rfl⟩
            rw [hw3] at O3 ⊢
            have b3 : Hid (Below w.heap.size w w3) := by show Below _ _ _; rw [← hw3]; exact below_drewN b2.out nq
            clear hw3 O2 b2
            go_wp2_with (first
              | (refine wpList_pushS rfl (.tmp 48) (.tmp 50) rfl base _ n L rfl (O3.out.alloc _) w3.heap.size s rfl (by simp) (by omega) (by have := b3.out.size; simp; omega) ?_; intro g cap w4 O4 G4))
            have b4 : Below base w w4 := ((b3.out.mono hb).alloc (by have := b3.out.size; omega) _).grown G4 (by have := b3.out.size; simp; omega) (fun j e => (O3.out.lt j e).1)
            replace O4 := hide O4
            replace b4 := hide b4
            clear G4
            go_wp2_with fail
            go_ret2
            exact ⟨.inl ⟨_, g, cap, hw.out, rfl, O4.out⟩, b4.out⟩
          · have hw := hide (hw.out.trans (if_neg (fun h => c4 h.2.2)))
            have e4 : (((cmn t s : Nat) : Int) != (k : Int)) = true := by simp; omega
            generalize cmn t s = cc at CQ c4 e4
            replace c4 := hide c4
            replace c2b := hide c2b
            replace c2 := hide c2
            have e5 : IntKind.i64.wrap (k : Int) = (k : Int) := wrap_small (by have := j1.out; omega)
            have e0 : ((n : Int) == 0) = false := by simp; omega
            have e1 : Op.bytesLess t s = true := by rw [bytesLess_eq]; exact decide_eq_true c3
            replace c3 := hide c3
            clear O2
            go_wp2_with fail
            go_quiet ((first | (go_at_call 18; exact Calls.quiet_of_same (TL.out _)) | (go_at_call 37; exact Calls.quiet_of (CQ.out _))))
            go_wp2_with fail
            go_ret2
            exact ⟨.inr ⟨hw.out, rfl⟩, below_drewN (b2.out.mono hb) _⟩
        · skip
          have hw := hide (hw.out.trans (if_neg (fun h => by rcases h.2.1 with e | e; exact c0 (hn0.2 e); exact c3 e)))
          have e0 : ((n : Int) == 0) = false := by simp; omega
          have e1 : Op.bytesLess t s = false := by rw [bytesLess_eq]; exact decide_eq_false c3
          replace c3 := hide c3
          clear O2
          go_wp2_with fail
          go_quiet ((first | (go_at_call 18; exact Calls.quiet_of_same (TL.out _)) | (go_at_call 37; exact Calls.quiet_of (CQ.out _))))
          go_wp2_with fail
          go_ret2
          exact ⟨.inr ⟨hw.out, rfl⟩, below_drewN (b2.out.mono hb) _⟩
  · have hw : wth L (k, x) = none := by
      unfold wth
      rw [ht]
      exact if_neg (fun h => by have := hm.out; omega)
    obtain ⟨⟨q0, q1⟩, _⟩ := X0.out
    replace hW0 := hide hW0
    replace hl := hide hl
    replace ht := hide ht
    replace hw := hide hw
    clear O0
    go_enter Try.func28, Try.ntmps28
    go_wp2_with fail
    rw [hW0.out]
    refine LA.out.mono ?_
    rintro e w1 ⟨rfl, rfl⟩
    go_upto_if 16 with fail
    refine wp_cond_true (congrArg Value.bool (decide_eq_true (by omega))) ?_
    go_wp2_with fail
    go_ret2
    exact ⟨.inr ⟨hw.out, rfl⟩, B0.out.mono hb⟩
end Go.Proofs.Ytbinnpadmajgpaa
