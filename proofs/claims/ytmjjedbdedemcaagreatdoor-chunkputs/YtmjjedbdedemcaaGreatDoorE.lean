/-
  bits.Writer.Put.
-/
import Derived.Test.YtmjjedbdedemcaaGreatDoorA
import Derived.Deep.RegionWith
import Derived.Deep.AppendLies
namespace Go.Proofs.YtmjjedbdedemcaaGreatDoor
open Go.RowKit
set_option linter.unusedVariables false

theorem piece_val {k m : Nat} (hk : 0 < k) (hk2 : k ≤ 64) : ∃ s b k' q : Nat, min k (8 - m % 8) = s ∧ 8 - m % 8 - s = b ∧ k = k' + s ∧ m / 8 = q ∧ 1 ≤ s ∧ s ≤ 8 ∧ b < 8 ∧ m % 8 + s + b = 8 := by
  refine ⟨min k (8 - m % 8), 8 - m % 8 - min k (8 - m % 8), k - min k (8 - m % 8), m / 8, rfl, rfl, ?_, rfl, ?_, ?_, ?_, ?_⟩ <;> omega

theorem or_byte {c : Int} {y s b : Nat} (hc : 0 ≤ c ∧ c ≤ 255) (hy : y < 2 ^ s) (hsb : s + b ≤ 8) : bits BinOp.or IntKind.u8 c ((y : Int) * 2 ^ b % 256) = ((c.toNat ||| y * 2 ^ b : Nat) : Int) := by
  have h1 : y * 2 ^ b < 256 := by
    have h2 : y * 2 ^ b < 2 ^ s * 2 ^ b := (Nat.mul_lt_mul_right (Nat.two_pow_pos b)).2 hy
    have h3 : 2 ^ s * 2 ^ b ≤ 2 ^ 8 := by rw [← Nat.pow_add]; exact Nat.pow_le_pow_right (by decide) hsb
    omega
  have h4 : ((y : Int) * 2 ^ b % 256) = ((y * 2 ^ b : Nat) : Int) := by
    have : ((y : Int) * 2 ^ b) = ((y * 2 ^ b : Nat) : Int) := by simp
    rw [this]
    omega
  rw [h4]
  have := u8_or_nat c.toNat (y * 2 ^ b) (by omega) h1
  rwa [Int.toNat_of_nonneg hc.1] at this

theorem getD_byte {l : List Int} (h : ∀ x ∈ l, 0 ≤ x ∧ x ≤ 255) (q : Nat) (hq : q < l.length) : 0 ≤ l.getD q 0 ∧ l.getD q 0 ≤ 255 := by
  apply h
  simp [List.getD, List.getElem?_eq_getElem hq]

theorem shr_nat (x k : Nat) : ((x : Int) / 2 ^ k) = ((x / 2 ^ k : Nat) : Int) := by simp

theorem wpList_lies1 {w : World} {ops : Array Oper} {rest : List Oper} {o : Oper} {a : Act} {Q : Exit → Act → World → Prop} (hgd : o.guard = none) (s x : Operand)
    (ho : o.op = .call { callee := .builtin .append, args := #[s, x], argTypes := #[24, 24] })
    (base : Nat) (v : Value) (n : Nat) (l : List Int) (hs : a.eval s = v) (hown : w.ownsRow base 5 1 v n (l.map (Value.int .u8)))
    (ax : Addr) (b : Int) (hx : a.eval x = .slice (some ax) 1 1) (hh : Has w (some ax) 1 1 [b])
    (hb : n + 1 ≤ 4398046511104) (hbase : base ≤ w.heap.size)
    (h : ∀ g cap w', w'.ownsRow base 5 1 (.slice (some ⟨g, 0, none⟩) (n + 1) cap) (n + 1) ((l ++ [b]).map (Value.int .u8)) → w.grownBy w' v.ownBlock → (v.ownBlock = some g ∨ g = w.heap.size) → wpList Tryz.prog ops Q rest (a.put o.dst (.slice (some ⟨g, 0, none⟩) (n + 1) cap)) w') :
    wpList Tryz.prog ops Q (o :: rest) a w := by
  obtain ⟨i0, hi, hz0, hz1, hz2⟩ := info_parts info5
  refine wpList_append_lies w hgd s x 24 ho base 5 i0 (.int .u8 0) 1 1 Tryz.underlying24 hi hz0 hz1 hz2 rfl (by decide) v n (l.map (Value.int .u8)) hs hown ax 1 1 ([b].map (Value.int .u8)) hx
    (by simp) ?_ (ints_oneCell _ _) (by omega) (by unfold maxLen; omega) (by omega) hbase _ rfl ?_
  · intro j u hj
    obtain ⟨b', off, e1, e2, e3⟩ := cells_of_has hh (by omega)
    cases e1
    exact e3 j u hj
  · intro g cap w' h1 h2 h3 _
    exact h g cap w' (by simpa using h1) h2 h3

theorem put_grow {w wr w2 : World} {base p : Nat} {v v' : Value} {l' : List Int} {m j g2 c2 : Nat} {o : Obj} (O : Oct wr base p 100 v' l' m) (B : But (fp p v) w wr) (S : ∀ i, i < w.heap.size → v'.ownBlock = some i → v.ownBlock = some i)
    (O2 : w2.ownsRow base 5 1 (.slice (some ⟨g2, 0, none⟩) (l'.length + 1) c2) (l'.length + 1) ((l' ++ [0]).map (Value.int .u8))) (G : ((wr.drewN j).alloc o).grownBy w2 v'.ownBlock) (hat : v'.ownBlock = some g2 ∨ g2 = ((wr.drewN j).alloc o).heap.size) :
    w2.cell? ⟨p, 0, none⟩ = some v' ∧ w2.frozen? ⟨p, 0, none⟩ = false ∧ Hid (Oct (w2.setCell ⟨p, 0, none⟩ (.slice (some ⟨g2, 0, none⟩) (l'.length + 1) c2)) base p 100 (.slice (some ⟨g2, 0, none⟩) (l'.length + 1) c2) (l' ++ [0]) m) ∧
      Hid (But (fp p v) w (w2.setCell ⟨p, 0, none⟩ (.slice (some ⟨g2, 0, none⟩) (l'.length + 1) c2))) ∧ Hid (∀ i, i < w.heap.size → (Value.slice (some ⟨g2, 0, none⟩) (l'.length + 1) c2).ownBlock = some i → v.ownBlock = some i) := by
  have Oa : Oct ((wr.drewN j).alloc o) base p 100 v' l' m := (O.drewN j).alloc o
  have hp : w2.heap[p]? = ((wr.drewN j).alloc o).heap[p]? := G.block p Oa.lt (fun e => O.ne e.symm)
  have c0 : w2.cell? ⟨p, 0, none⟩ = some v' := (World.cell?_of_block (a := ⟨p, 0, none⟩) hp).trans Oa.c0
  have f0 : w2.frozen? ⟨p, 0, none⟩ = false := (World.frozen?_of_block (a := ⟨p, 0, none⟩) hp).trans (Oa.fz 0)
  have hs1 : wr.heap.size < ((wr.drewN j).alloc o).heap.size := by simp
  have hgp : g2 ≠ p := by
    rcases hat with h | h
    · intro e; exact O.ne (by rw [h, e])
    · have := O.lt; omega
  have hb0 : But (fp p v) w w2 := ((B.drewN j).alloc o).grown G (fun k hk hlt => .inr (S k hlt hk))
  have O3 : Oct (w2.setCell ⟨p, 0, none⟩ (.slice (some ⟨g2, 0, none⟩) (l'.length + 1) c2)) base p 100 (.slice (some ⟨g2, 0, none⟩) (l'.length + 1) c2) (l' ++ [0]) m → Hid (Oct (w2.setCell ⟨p, 0, none⟩ (.slice (some ⟨g2, 0, none⟩) (l'.length + 1) c2)) base p 100 (.slice (some ⟨g2, 0, none⟩) (l'.length + 1) c2) (l' ++ [0]) m) := hide
  refine ⟨c0, f0, O3 ⟨?_, O.ge, ?_, ?_⟩, hb0.setCell (p := ⟨p, 0, none⟩) (fun _ => .inl rfl) _, ?_⟩
  · have hq := heap_setCell_same w2 p 0 _ 100 (.slice (some ⟨g2, 0, none⟩) (l'.length + 1) c2) (hp.trans Oa.heap)
    exact hq
  · rw [List.length_append, List.length_singleton]
    refine owns_of_block O2 (fun k hk => Below.heap_setCell w2 _ _ k (fun e => hgp ?_))
    have h9 : g2 = k := by simpa [Value.ownBlock] using hk
    exact h9.trans e
  · simp [Value.ownBlock]; exact hgp
  · intro i hi hk
    have : g2 = i := by simpa [Value.ownBlock] using hk
    rcases hat with h | h
    · exact S i hi (by rw [h, this])
    · have := B.size; omega

theorem ek_part (A x n k' s : Nat) (h : k' + s ≤ n) (k : Nat) (ek : k = k' + s) : part A x n k' = part A x n k * 2 ^ s + x / 2 ^ k' % 2 ^ s := by
  rw [ek]; exact (part_next A x n k' s h).symm

set_option maxHeartbeats 4000000 in
theorem put_ok {w : World} {base p : Nat} {v : Value} {l : List Int} {A n0 : Nat} (h : Oct w base p 100 v l n0) (hh : Holds l A n0) (x n : Nat) (hx : x < 18446744073709551616) (hn : n ≤ 64) (hroom : n0 + n ≤ 524288) :
    Calls Tryz.prog 63 #[.pointer (some ⟨p, 0, none⟩), .int .u64 (x : Int), .int .i64 (n : Int)] w fun e w' => e = .returned (.int .i64 0) ∧ ∃ v' l', Oct w' base p 100 v' l' (n0 + n) ∧ Holds l' (A * 2 ^ n + x % 2 ^ n) (n0 + n) ∧ But (fp p v) w w' ∧ (∀ i, i < w.heap.size → v'.ownBlock = some i → v.ownBlock = some i) := by
  have c1 := h.c1
  have c2 := h.c2
  replace h := hide h
  replace hh := hide hh
  have hs : Hid (∀ w, Calls Tryz.prog 82 #[.int .i64 (n : Int)] w fun e w' => e = .returned (.bool true) ∧ w' = w) := fun w => by
    have := isSize_any n w
    rwa [show decide (0 ≤ (n : Int) ∧ (n : Int) ≤ 64) = true by simp; omega] at this
  have hr : (n : Int) ≤ 524288 - (n0 : Int) := by omega
  have hr0 : (n0 : Int) ≤ 524288 := by omega
  have hp := hide (part_all A x n)
  go_enter Tryz.func63, Tryz.ntmps63
  go_wp2_with (go_at_call 82; refine (hs.out _).mono ?_; rintro e w ⟨rfl, rfl⟩)
  go_loopw [7] (fun r wr => ∃ (k : Nat) (v' : Value) (l' : List Int), r = .int .i64 (k : Int) ∧ k ≤ n ∧ Hid (Oct wr base p 100 v' l' (n0 + n - k)) ∧ Hid (Holds l' (part A x n k) (n0 + n - k)) ∧ Hid (But (fp p v) w wr) ∧ Hid (∀ i, i < w.heap.size → v'.ownBlock = some i → v.ownBlock = some i)) (fun r _ => (intOf r).toNat)
  case atStart =>
    refine ⟨n, v, l, rfl, Nat.le_refl _, ?_, ?_, But.refl _ _, fun i _ h => h⟩
    · rw [show n0 + n - n = n0 by omega]; exact h
    · rw [show n0 + n - n = n0 by omega, hp.out]; exact hh
  case round =>
    clear c1 c2 h hh hs hp
    obtain ⟨k, v', l', rfl, hkn, O, HH, B, S⟩ := hrel
    by_cases hk : k = 0
    · subst hk
      go_wp2_with fail
      go_ret
      refine ⟨rfl, v', l', O.out, ?_, B.out, S.out⟩
      have := HH.out
      rwa [part_none] at this
    · obtain ⟨m, hm⟩ : ∃ m, n0 + n - k = m := ⟨_, rfl⟩
      rw [hm] at O HH
      have hk0 : (0 : Int) < (k : Int) := by omega
      have hlo := HH.out.lo
      have hhi := HH.out.hi
      have hl1 := hide HH.out.bytes
      have hA2 := hide HH.out.lt
      have LF := hide (left_any O.out hlo (by omega))
      by_cases hfull : 8 * l'.length = m
      · have hne : (((8 * l'.length - m : Nat) : Int) == 0) = true := by rw [beq_iff_eq]; omega
        have hnum2 := hide (more_num HH.out hfull)
        have hl2 : Hid (∀ x ∈ l' ++ [0], 0 ≤ x ∧ x ≤ 255) := by
          intro y hy
          rcases List.mem_append.1 hy with h | h
          · exact hl1.out y h
          · simp at h; omega
        have hc0 := O.out.c0
        have hfz := O.out.fz 0
        go_wp2_with (first
          | (go_at_call 83; refine LF.out.mono ?_; rintro e wq ⟨rfl, j, rfl⟩)
          | (at_builtin; refine wpList_lies1 rfl (.tmp 44) (.tmp 45) rfl base _ l'.length l' rfl ((O.out.drewN j).own.alloc _) _ 0 rfl (has_one _ _ (by omega)) (by omega) (by have := O.out.lt; have := O.out.ge; simp; omega) ?_; intro g2 c2 w2 O2' G2 hat; obtain ⟨hc02, hfz2, O2, B2, S2⟩ := put_grow O.out B.out S.out O2' G2 hat))
        obtain ⟨wr2, hwr⟩ : ∃ wr2, w2.setCell ⟨p, 0, none⟩ (.slice (some ⟨g2, 0, none⟩) (l'.length + 1) c2) = wr2 := ⟨_, rfl⟩
        rw [hwr] at O2 B2 ⊢
        have hlen2 : (l' ++ [0]).length = l'.length + 1 := by simp
        clear S LF hl1 HH O B hwr hc02 hfz2 O2' G2 hat hc0 hfz
        obtain ⟨v2, hv2⟩ : ∃ v2, (Value.slice (some ⟨g2, 0, none⟩) (l'.length + 1) c2) = v2 := ⟨_, rfl⟩
        obtain ⟨l2, hl22⟩ : ∃ l2, l' ++ [0] = l2 := ⟨_, rfl⟩
        rw [hv2] at O2 S2
        rw [hl22] at O2 hlen2 hl2 hnum2
        rw [hv2]
        clear hv2 hl22
        obtain ⟨s, b, k', q, es, eb, ek, eq, hs1, hs8, hb8, h8⟩ := piece_val (m := m) (show 0 < k by omega) (by omega)
        have P := hide (piece_any O2.out (by omega) k (by omega))
        rw [es, eb] at P
        have hc0 := O2.out.c0
        have hc1 := O2.out.c1
        have hfz := O2.out.fz 1
        have hq2 : q < l2.length := by omega
        obtain ⟨g, c, hv⟩ : ∃ g c, v2 = .slice (some ⟨g, 0, none⟩) l2.length c := by
          rcases O2.out.own.2 with ⟨_, h1⟩ | ⟨g, cap, cur, h1, _⟩
          · omega
          · exact ⟨g, cap, h1⟩
        have hcq : wr2.cell? ⟨g, q, none⟩ = some (.int .u8 (l2.getD q 0)) := by
          have := O2.out.own.cells (g := g) (by rw [hv]; rfl) q (.int .u8 (l2.getD q 0)) (by simp [List.getD, List.getElem?_eq_getElem hq2])
          rwa [add_plain, Nat.zero_add] at this
        have hfq : wr2.frozen? ⟨g, q, none⟩ = false := by
          have := O2.out.own
          rw [hv] at this
          exact this.frozenAt q
        have hgp : ¬ g = p := fun e => O2.out.ne (by rw [hv, e]; rfl)
        have hpg : ¬ p = g := fun e => hgp e.symm
        have hby := getD_byte hl2.out q hq2
        obtain ⟨y, hy⟩ : ∃ y, x / 2 ^ k' % 2 ^ s = y := ⟨_, rfl⟩
        have hy2 : y < 2 ^ s := by rw [← hy]; exact Nat.mod_lt _ (Nat.two_pow_pos s)
        have hy3 : y < 256 := Nat.lt_of_lt_of_le hy2 (by have := Nat.pow_le_pow_right (n := 2) (by decide) hs8; omega)
        have L : Hid (∀ w, Calls Tryz.prog 85 #[.int .u64 ((x : Int) / 2 ^ k'), .int .i64 (s : Int)] w fun e w' => e = .returned (.int .u64 (y : Int)) ∧ w' = w) := fun w => by
          rw [shr_nat]
          have := low64_any (x / 2 ^ k') s w (Nat.lt_of_le_of_lt (Nat.div_le_self _ _) hx) (by omega)
          rwa [hy] at this
        obtain ⟨z, hz, hz2, HN⟩ := piece_put (x := x) (r := k') (s := s) (b := b) hl2.out hA2.out hnum2.out hs1 (by omega) h8
        rw [hy, eq] at hz
        have ho := or_byte (y := y) (s := s) (b := b) hby hy2 (by omega)
        rw [← hz] at ho
        rw [eq, ← ek_part A x n k' s (by omega) k ek, ← show n0 + n - k' = m + s by omega] at HN
        replace HN := hide HN
        have ho2 : bits BinOp.or IntKind.u8 (l2.getD q 0) (IntKind.u8.wrap (IntKind.u8.wrap (y : Int) * 2 ^ b)) = (z : Int) := by
          rw [IntKind.wrap_u8, IntKind.wrap_u8, show (y : Int) % 256 = (y : Int) by omega]; exact ho
        have FIN : Hid (∀ wx : World, Oct wx base p 100 v2 l2 m → But (fp p v) w wx → Hid (Oct ((wx.setCell ⟨g, q, none⟩ (.int .u8 (z : Int))).drew.setCell ⟨p, 1, none⟩ (.int .i64 ((n0 + n - k' : Nat) : Int))) base p 100 v2 (l2.set q (z : Int)) (n0 + n - k')) ∧ Hid (But (fp p v) w ((wx.setCell ⟨g, q, none⟩ (.int .u8 (z : Int))).drew.setCell ⟨p, 1, none⟩ (.int .i64 ((n0 + n - k' : Nat) : Int))))) := fun wx h1 h2 =>
          ⟨(h1.setByte hv q _).drew.setAt _, ((h2.setCell (p := ⟨g, q, none⟩) (fun hlt => .inr (S2.out g hlt (by rw [hv]; rfl))) _).drew).setCell (p := ⟨p, 1, none⟩) (fun _ => .inl rfl) _⟩
        have e1 : (k : Int) - (s : Int) = (k' : Int) := by omega
        have e2 : (m : Int) / 8 = (q : Int) := by omega
        have e3 : (m : Int) + (s : Int) = ((n0 + n - k' : Nat) : Int) := by omega
        have hmb : (m : Int) ≤ 524288 := by omega
        have hq3 : (q : Int) < (l2.length : Int) := by omega
        have hmin : min b 8 = b := by omega
        have hkb : k' ≤ 64 := by omega
        have hkn' : k' < k := by omega
        clear hz hy es eb h8 eq
        generalize l2.getD q 0 = c0 at hcq hby ho ho2
        generalize l2.length = len at hv hq3 hq2
        have hq5 : (0 : Int) ≤ (q : Int) := by omega
        have hq6 : IntKind.i64.wrap (q : Int) = (q : Int) := by unfold IntKind.wrap; simp [IntKind.bits, IntKind.signed]; omega
        rw [hv] at hc0
        have hb1 := hby.1
        have hb2 := hby.2
        clear hby
        go_wp2_with (go_at_call 84; refine P.out.mono ?_; rintro e wq ⟨rfl, rfl⟩)
        go_region_with (first
          | (go_at_call 85; refine (L.out _).mono ?_; rintro e w5 ⟨rfl, rfl⟩))
        all_goals (go_wp2_with fail; go_roundw)
        all_goals first
          | exact ⟨k', v2, _, rfl, by omega, (FIN.out _ O2.out B2.out).1, HN, (FIN.out _ O2.out B2.out).2, S2⟩
          | (simp [intOf]; omega)
      · have hne : (((8 * l'.length - m : Nat) : Int) == 0) = false := by rw [beq_eq_false_iff_ne]; omega
        have hnum2 := hide HH.out.num
        go_wp2_with (go_at_call 83; refine LF.out.mono ?_; rintro e wq ⟨rfl, j, rfl⟩)
        obtain ⟨wr2, hwr⟩ : ∃ wr2, wr.drewN j = wr2 := ⟨_, rfl⟩
        have O2 := hide (O.out.drewN j)
        have B2 := hide (B.out.drewN j)
        rw [hwr] at O2 B2 ⊢
        have S2 := S
        have hl2 := hl1
        clear S LF hl1 HH O B hwr
        obtain ⟨v2, hv2⟩ : ∃ v2, v' = v2 := ⟨_, rfl⟩
        obtain ⟨l2, hl22⟩ : ∃ l2, l' = l2 := ⟨_, rfl⟩
        subst hv2 hl22
        generalize l' = l2 at *
        generalize v' = v2 at *
        obtain ⟨s, b, k', q, es, eb, ek, eq, hs1, hs8, hb8, h8⟩ := piece_val (m := m) (show 0 < k by omega) (by omega)
        have P := hide (piece_any O2.out (by omega) k (by omega))
        rw [es, eb] at P
        have hc0 := O2.out.c0
        have hc1 := O2.out.c1
        have hfz := O2.out.fz 1
        have hq2 : q < l2.length := by omega
        obtain ⟨g, c, hv⟩ : ∃ g c, v2 = .slice (some ⟨g, 0, none⟩) l2.length c := by
          rcases O2.out.own.2 with ⟨_, h1⟩ | ⟨g, cap, cur, h1, _⟩
          · omega
          · exact ⟨g, cap, h1⟩
        have hcq : wr2.cell? ⟨g, q, none⟩ = some (.int .u8 (l2.getD q 0)) := by
          have := O2.out.own.cells (g := g) (by rw [hv]; rfl) q (.int .u8 (l2.getD q 0)) (by simp [List.getD, List.getElem?_eq_getElem hq2])
          rwa [add_plain, Nat.zero_add] at this
        have hfq : wr2.frozen? ⟨g, q, none⟩ = false := by
          have := O2.out.own
          rw [hv] at this
          exact this.frozenAt q
        have hgp : ¬ g = p := fun e => O2.out.ne (by rw [hv, e]; rfl)
        have hpg : ¬ p = g := fun e => hgp e.symm
        have hby := getD_byte hl2.out q hq2
        obtain ⟨y, hy⟩ : ∃ y, x / 2 ^ k' % 2 ^ s = y := ⟨_, rfl⟩
        have hy2 : y < 2 ^ s := by rw [← hy]; exact Nat.mod_lt _ (Nat.two_pow_pos s)
        have hy3 : y < 256 := Nat.lt_of_lt_of_le hy2 (by have := Nat.pow_le_pow_right (n := 2) (by decide) hs8; omega)
        have L : Hid (∀ w, Calls Tryz.prog 85 #[.int .u64 ((x : Int) / 2 ^ k'), .int .i64 (s : Int)] w fun e w' => e = .returned (.int .u64 (y : Int)) ∧ w' = w) := fun w => by
          rw [shr_nat]
          have := low64_any (x / 2 ^ k') s w (Nat.lt_of_le_of_lt (Nat.div_le_self _ _) hx) (by omega)
          rwa [hy] at this
        obtain ⟨z, hz, hz2, HN⟩ := piece_put (x := x) (r := k') (s := s) (b := b) hl2.out hA2.out hnum2.out hs1 (by omega) h8
        rw [hy, eq] at hz
        have ho := or_byte (y := y) (s := s) (b := b) hby hy2 (by omega)
        rw [← hz] at ho
        rw [eq, ← ek_part A x n k' s (by omega) k ek, ← show n0 + n - k' = m + s by omega] at HN
        replace HN := hide HN
        have ho2 : bits BinOp.or IntKind.u8 (l2.getD q 0) (IntKind.u8.wrap (IntKind.u8.wrap (y : Int) * 2 ^ b)) = (z : Int) := by
          rw [IntKind.wrap_u8, IntKind.wrap_u8, show (y : Int) % 256 = (y : Int) by omega]; exact ho
        have FIN : Hid (∀ wx : World, Oct wx base p 100 v2 l2 m → But (fp p v) w wx → Hid (Oct ((wx.setCell ⟨g, q, none⟩ (.int .u8 (z : Int))).drew.setCell ⟨p, 1, none⟩ (.int .i64 ((n0 + n - k' : Nat) : Int))) base p 100 v2 (l2.set q (z : Int)) (n0 + n - k')) ∧ Hid (But (fp p v) w ((wx.setCell ⟨g, q, none⟩ (.int .u8 (z : Int))).drew.setCell ⟨p, 1, none⟩ (.int .i64 ((n0 + n - k' : Nat) : Int))))) := fun wx h1 h2 =>
          ⟨(h1.setByte hv q _).drew.setAt _, ((h2.setCell (p := ⟨g, q, none⟩) (fun hlt => .inr (S2.out g hlt (by rw [hv]; rfl))) _).drew).setCell (p := ⟨p, 1, none⟩) (fun _ => .inl rfl) _⟩
        have e1 : (k : Int) - (s : Int) = (k' : Int) := by omega
        have e2 : (m : Int) / 8 = (q : Int) := by omega
        have e3 : (m : Int) + (s : Int) = ((n0 + n - k' : Nat) : Int) := by omega
        have hmb : (m : Int) ≤ 524288 := by omega
        have hq3 : (q : Int) < (l2.length : Int) := by omega
        have hmin : min b 8 = b := by omega
        have hkb : k' ≤ 64 := by omega
        have hkn' : k' < k := by omega
        clear hz hy es eb h8 eq
        generalize l2.getD q 0 = c0 at hcq hby ho ho2
        generalize l2.length = len at hv hq3 hq2
        have hq5 : (0 : Int) ≤ (q : Int) := by omega
        have hq6 : IntKind.i64.wrap (q : Int) = (q : Int) := by unfold IntKind.wrap; simp [IntKind.bits, IntKind.signed]; omega
        rw [hv] at hc0
        have hb1 := hby.1
        have hb2 := hby.2
        clear hby
        go_wp2_with (go_at_call 84; refine P.out.mono ?_; rintro e wq ⟨rfl, rfl⟩)
        go_region_with (first
          | (go_at_call 85; refine (L.out _).mono ?_; rintro e w5 ⟨rfl, rfl⟩))
        all_goals (go_wp2_with fail; go_roundw)
        all_goals first
          | exact ⟨k', v2, _, rfl, by omega, (FIN.out _ O2.out B2.out).1, HN, (FIN.out _ O2.out B2.out).2, S2⟩
          | (simp [intOf]; omega)

end Go.Proofs.YtmjjedbdedemcaaGreatDoor
