/-
  What is put is read back; the texts of SymFull.
-/
import Derived.Test.YtbinnpadmajgpaaR
namespace Go.Proofs.Ytbinnpadmajgpaa
open Go.RowKit Go.Shelf
set_option linter.unusedVariables false
set_option linter.unusedSimpArgs false
set_option maxRecDepth 100000

theorem parts_len' (m : Nat) : ∀ (L : List Tx) (p : Tx), (∀ s ∈ L, s.length ≤ m) → (partsB p L).length ≤ (20 + m) * L.length
  | [], p, _ => by simp [partsB]
  | s :: L, p, h => by
    have h1 := parts_len' m L s (fun x hx => h x (by simp [hx]))
    have h2 := h s (by simp)
    have e1 := V.sz_range (cmn p s)
    have e2 := V.sz_range (num (s.drop (cmn p s))).length
    simp only [partsB, partB, V.pb, List.length_append, V.enc_length, num_len, List.length_drop, List.length_cons] at h1 e2 ⊢
    rw [Nat.mul_add, Nat.mul_one]
    omega
theorem tab_len (m : Nat) (L : List Tx) (h : ∀ s ∈ L, s.length ≤ m) : (tabB L).length ≤ 10 + (20 + m) * L.length := by
  have := parts_len' m L [] h
  have e := V.sz_range L.length
  unfold tabB
  rw [List.length_append, V.enc_length]
  omega
theorem read_back (w : World) (a : Option Addr) (len cap : Nat) (L : List Tx) (more : List Int) (hg : Good L) (h : V.Has w a len cap (tabB L ++ more)) (hb : len ≤ 1000000) :
    Calls Try.prog 10 #[.slice a len cap, .int .i64 0] w fun e w' => ∃ v, e = .returned (.tuple #[v, .int .i64 (((tabB L).length : Nat) : Int), .int .i64 0]) ∧ TabV w' v L ∧ Below w.heap.size w w' := by
  obtain ⟨t1, P, t2, t3⟩ := tab_back hg more
  refine (Read_any w a len cap _ 0 h hb (Nat.zero_le _)).mono ?_
  rintro e w' ⟨⟨n, k, P', m, L', v, h1, h2, h3, h4, rfl, h5⟩ | ⟨hno, _⟩, B⟩
  · rw [List.drop_zero, t1] at h1
    cases h1
    rw [Nat.zero_add, t2] at h2
    cases h2
    rw [t3] at h4
    cases h4
    refine ⟨v, ?_, h5, B⟩
    rw [show 0 + (V.enc L.length).length + (partsB [] L).length = (tabB L).length by unfold tabB; rw [List.length_append]; omega]
  · exfalso
    have := hno L.length _ P _ (by rw [List.drop_zero]; exact t1) (by rw [Nat.zero_add]; exact t2) hg.2.2
    rw [t3] at this
    cases this

/-! ### the texts of SymFull -/
def pt (i : Nat) : Tx := [UInt8.ofNat (i / 256), UInt8.ofNat (i % 256)]
def pts (n : Nat) : List Tx := (List.range n).map pt
theorem pts_len (n : Nat) : (pts n).length = n := by simp [pts]
theorem pts_snoc (n : Nat) : pts (n + 1) = pts n ++ [pt n] := by unfold pts; rw [List.range_succ, List.map_append]; rfl
theorem pt_inj {i j : Nat} (hi : i < 65536) (hj : j < 65536) (h : pt i = pt j) : i = j := by
  unfold pt at h
  simp only [List.cons.injEq, and_true] at h
  have h1 := congrArg UInt8.toNat h.1
  have h2 := congrArg UInt8.toNat h.2
  simp only [UInt8.toNat_ofNat'] at h1 h2
  omega
theorem pts_nodup (n : Nat) (hn : n ≤ 65536) : (pts n).Nodup := by
  unfold pts
  refine List.pairwise_map.2 ?_
  refine List.Pairwise.imp_of_mem ?_ (List.nodup_range (n := n))
  intro a b ha hb hab e
  exact hab (pt_inj (by have := List.mem_range.1 ha; omega) (by have := List.mem_range.1 hb; omega) e)
theorem pts_mk (n : Nat) (hn : n ≤ 65536) : (mk (pts n)).length = n := by rw [mk_nodup (pts_nodup n hn), pts_len]
theorem pts_sz (n : Nat) : ∀ s ∈ pts n, s.length = 2 := by
  intro s hs
  obtain ⟨x, _, rfl⟩ := List.mem_map.1 hs
  rfl
theorem pts_ok (n : Nat) (hn : n ≤ 4096) : OkL (pts n) := ⟨fun s hs => by have := pts_sz n s hs; omega, by rw [pts_mk n (by omega)]; exact hn⟩
theorem pts_no (n : Nat) (h1 : 4096 < n) (hn : n ≤ 65536) : ¬ OkL (pts n) := fun h => by have := h.2; rw [pts_mk n hn] at this; omega
theorem among_ex (x : Int) (n : Nat) (h1 : 1 ≤ n) (h2 : n ≤ 9223372036854775807) : ∃ r : Nat, r < n ∧ ∀ w, Calls Try.prog 16 #[.int .i64 x, .int .i64 (n : Int)] w fun e w' => e = .returned (.int .i64 (r : Int)) ∧ w' = w := by
  have v := among_val x n h1
  refine ⟨((IntKind.u64.wrap x).tmod (n : Int)).toNat, by omega, fun w => ?_⟩
  have hn : (1 : Int) ≤ (n : Int) := by omega
  have hn' : (n : Int) ≤ 9223372036854775807 := by omega
  go_enter Try.func16, Try.ntmps16
  go_wp2
  go_ret
  exact ⟨ret_int (Int.toNat_of_nonneg v.1).symm, rfl⟩
/-- append of one text to a row of one's own, at []string. -/
theorem wpList_pushT {w : World} {ops : Array Oper} {rest : List Oper} {o : Oper} {a : Act} {Q : Exit → Act → World → Prop} (hgd : o.guard = none) (s x : Operand)
    (ho : o.op = .call { callee := .builtin .append, args := #[s, x], argTypes := #[22, 22] }) (base : Nat) (v : Value) (k : Nat) (l : List Tx) (hs : a.eval s = v) (hown : w.ownsRow base 9 1 v k (l.map encStr))
    (ax : Nat) (b : Tx) (hx : a.eval x = .slice (some ⟨ax, 0, none⟩) 1 1) (hc : w.cell? ⟨ax, 0, none⟩ = some (encStr b)) (hb : k + 1 ≤ 10000000) (hbase : base ≤ w.heap.size)
    (h : ∀ g cap w', w'.ownsRow base 9 1 (.slice (some ⟨g, 0, none⟩) (k + 1) cap) (k + 1) ((l ++ [b]).map encStr) → w.grownBy w' v.ownBlock → wpList Try.prog ops Q rest (a.put o.dst (.slice (some ⟨g, 0, none⟩) (k + 1) cap)) w') :
    wpList Try.prog ops Q (o :: rest) a w := by
  obtain ⟨i0, hi, hz0, hz1, hz2⟩ := info_parts info9
  refine wpList_append_lies w hgd s x 22 ho base 9 i0 (.string ByteArray.empty) 1 16 Try.underlying22 hi hz0 hz1 hz2 rfl (by decide) v k (l.map encStr) hs hown ⟨ax, 0, none⟩ 1 1 ([b].map encStr) hx
    (by simp) ?_ (by simp [Value.oneCell']) (by omega) (by unfold maxLen; omega) (by omega) hbase _ rfl ?_
  · intro j u hj
    have hj0 : j = 0 := by
      rcases Nat.lt_or_ge j 1 with h | h
      · omega
      · rw [List.getElem?_eq_none (by simpa using h)] at hj; cases hj
    subst hj0
    simp at hj
    subst hj
    rw [add_plain]; exact hc
  · intro g cap w' h1 h2 h3 _
    exact h g cap w' (by simpa using h1) h2
end Go.Proofs.Ytbinnpadmajgpaa
