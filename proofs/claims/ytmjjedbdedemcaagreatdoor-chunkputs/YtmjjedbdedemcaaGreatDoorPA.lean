/-
  ChunkPuts: few, what came in, the reference's PutBytes; mathematics.
-/
import Derived.Test.YtmjjedbdedemcaaGreatDoorTO
import Derived.Test.YtmjjedbdedemcaaGreatDoorRE
import Derived.Deep.SlicePairs
namespace Go.Proofs.YtmjjedbdedemcaaGreatDoor
open Go.RowKit Go.ChangeShapes Go.WideShapes Go.ChangeAt
set_option linter.unusedVariables false
set_option linter.unusedSimpArgs false

theorem HasS.front {w : World} {a : Option Addr} {len cap : Nat} {L : List Smp} (h : HasS w a len cap L) (k : Nat) (hk : k ≤ len) : HasS w a k cap (L.take k) := by
  have hl := h.hlen
  refine ⟨by simp; omega, Nat.le_trans hk h.le, h.capb, h.nil, fun hp => ?_, fun x hx => h.vb x (List.mem_of_mem_take hx)⟩
  obtain ⟨b, off, e1, e2, e3⟩ := h.cells (by omega)
  refine ⟨b, off, e1, e2, fun i hi => ?_⟩
  have : (L.take k).getD i noSmp = L.getD i noSmp := by simp [List.getD, List.getElem?_take, hi]
  rw [this]
  exact e3 i (by omega)
theorem came_smps {H : Type} {enc : TypeId × Value → H} {W : World} {base : Nat} {a : Option Addr} {len cap : Nat} {d : DataW H} {p : List MemPlace} (h : DataW.Trod enc Tryz.prog W base (fun _ => true) true 22 (.slice a len cap) d p) : ∃ l, HasS W a len cap l := by
  obtain ⟨fuel, hf⟩ := h
  rcases Go.Deep.open_slice_pairs Tryz.underlying22 Tryz.underlying33 (by kernel_rfl) rfl rfl (by kernel_rfl) (by kernel_rfl) hf with ⟨hcs, _⟩ | ⟨x, l, c, m, n, V0, V1, D0, D1, P0, P1, hcs, _, hl, hm, hmm, _, hr⟩
  · simp [Value.cells] at hcs
    obtain ⟨rfl, rfl, rfl⟩ := hcs
    exact ⟨[], hasS_nil W⟩
  · simp [Value.cells] at hcs
    obtain ⟨rfl, rfl, rfl⟩ := hcs
    simp at hmm
    have key : ∀ i, i < len → ∃ q : Smp, (W.cell? (x.add (i * 2)) = some (.int .i64 q.1) ∧ W.cell? (x.add (i * 2 + 1)) = some (.int .u64 (q.2 : Int))) ∧ q.2 < 18446744073709551616 := by
      intro i hi
      obtain ⟨h1, h2, h3, h4⟩ := hr i (by omega)
      obtain ⟨m1, e1, _, w1⟩ := DataW.trod_int Tryz.underlying3 h3
      obtain ⟨m2, e2, _, w2⟩ := DataW.trod_int Tryz.underlying31 h4
      have f1 : V0 i = .int .i64 m1 := by simpa using e1
      have f2 : V1 i = .int .u64 m2 := by simpa using e2
      have r2 := wf_u64 w2
      exact ⟨(m1, m2.toNat), ⟨by rw [h1, f1], by rw [h2, f2]; simp only; congr 2; omega⟩, by simp only; omega⟩
    let Q : Nat → Smp := fun i => if hi : i < len then Classical.choose (key i hi) else noSmp
    have hQ : ∀ i, i < len → (W.cell? (x.add (i * 2)) = some (.int .i64 (Q i).1) ∧ W.cell? (x.add (i * 2 + 1)) = some (.int .u64 ((Q i).2 : Int))) ∧ (Q i).2 < 18446744073709551616 := by
      intro i hi
      have := Classical.choose_spec (key i hi)
      simpa [Q, hi] using this
    refine ⟨(List.range len).map Q, by simp, hl, hm, (fun h => by cases h), fun hp => ?_, fun s hs => ?_⟩
    · obtain ⟨b, off, spot⟩ := x
      have hc := (hQ 0 hp).1.1
      have hspot : spot = none := by simpa [Addr.add] using World.cell?_spot hc
      subst hspot
      refine ⟨b, off, rfl, ?_, fun i hi => ?_⟩
      · have := World.block_lt_of_cell? W _ hc
        rwa [add_plain] at this
      · have hg : ((List.range len).map Q).getD i noSmp = Q i := by simp [List.getD, hi]
        have := (hQ i hi).1
        rw [add_plain, add_plain] at this
        rw [hg]
        exact ⟨this.1, by rw [show off + i * 2 + 1 = off + (i * 2 + 1) by omega]; exact this.2⟩
    · obtain ⟨i, hi, rfl⟩ := List.mem_map.1 hs
      exact (hQ i (List.mem_range.1 hi)).2
set_option maxHeartbeats 1000000 in
theorem few_any (w : World) (a : Option Addr) (len cap : Nat) (L : List Smp) (h : HasS w a len cap L) (hcap : cap ≤ 9223372036854775807) :
    Calls Tryz.prog 5 #[.slice a len cap] w (Smps w (L.take (min len 300))) := by
  obtain ⟨m, hm⟩ : ∃ m, min len 300 = m := ⟨_, rfl⟩
  rw [hm]
  have hml : m ≤ len := by omega
  have hle := h.le
  have H := h.front m hml
  have hlm := H.hlen
  have hvb := hide H.vb
  generalize L.take m = M at *
  have i1 : (m : Int) ≤ (cap : Int) := by omega
  have i1' : (m : Int) ≤ (len : Int) := by omega
  have i2 : (if (300 : Int) < (len : Int) then (300 : Int) else (len : Int)) = (m : Int) := by split <;> omega
  have i3 : (if 300 < len then (300 : Int) else (len : Int)) = (m : Int) := by split <;> omega
  have B0 : Below w.heap.size w (w.alloc (.cells #[] 33)) := (Below.refl _ w).alloc (Nat.le_refl _) _
  have H2 := hide (H.kept B0 (Nat.le_refl _))
  have O0 := hide (ownsS_nil w w.heap.size (Nat.le_refl _))
  have n0 : Hid (w.heap.size ≤ (w.alloc (.cells #[] 33)).heap.size) := by show w.heap.size ≤ _; simp
  have fin : Hid (∀ v2 w2, w2.ownsRow w.heap.size 33 2 v2 (0 + m) (flat ([] ++ M)) → (w.alloc (.cells #[] 33)).grownBy w2 (Value.slice (some ⟨w.heap.size, 0, none⟩) 0 0).ownBlock → Smps w M (.returned v2) w2) := fun v2 w2 O2 G2 => by
    rw [List.nil_append, Nat.zero_add] at O2
    have b2 := B0.grown G2 n0.out (fun q e => (O0.out.lt q e).1)
    obtain ⟨a3, c3, e3, H3⟩ := hasS_of_owns O2 hvb.out
    subst e3
    unfold Smps
    rw [hlm]
    exact ⟨a3, c3, rfl, H3, b2, O2⟩
  replace hm := hide hm
  clear h H B0
  go_enter Tryz.func5, Tryz.ntmps5
  go_wp2_with (at_builtin; refine wpList_appS rfl (.tmp 3) (.tmp 8) rfl w.heap.size _ 0 [] rfl O0.out _ m _ M rfl H2.out (by omega) n0.out ?_; intro v2 w2 O2 G2; have F2 := hide (fin.out v2 w2 O2 G2); clear O2 G2 O0 H2 fin)
  go_ret
  exact F2.out
set_option maxHeartbeats 1000000 in
theorem rPutB_any (w : World) (a : Option Addr) (len cap : Nat) (l : List Int) (h : Has w a len cap l) (hb : len ≤ 1000) (a' : Option Addr) (len' cap' : Nat) (m : List Int) (h' : Has w a' len' cap' m) (hb' : len' ≤ 65536) :
    Calls Tryz.prog 23 #[.slice a len cap, .slice a' len' cap'] w fun e w' => ∃ a2 n2 c2, e = .returned (.tuple #[.slice a2 n2 c2, .int .i64 0]) ∧ Has w' a2 n2 c2 (l ++ enc len' ++ m) ∧ Below w.heap.size w w' := by
  have P := refPut_any w a len cap l (len' : Int) h (by omega) (by omega) (by omega)
  simp only [Int.toNat_natCast] at P
  have hle' : (len' : Int) ≤ 65536 := by omega
  have hl := h.hlen
  have he := enc_len len'
  have hby := hide h.bytes
  have hby' := hide h'.bytes
  replace h' := hide h'
  replace P := hide P
  clear h
  go_enter Tryz.func23, Tryz.ntmps23
  go_wp2_with fail
  refine P.out.mono ?_
  rintro e w1 ⟨a1, n1, c1, rfl, H1, b1, O1⟩
  have hn1 : n1 ≤ 2000 := by have := H1.hlen; simp at this; omega
  have H2 := hide (h'.out.kept b1 (Nat.le_refl _))
  have n0 := hide b1.size
  have fin : Hid (∀ v2 w2, w2.ownsRow w.heap.size 5 1 v2 (n1 + len') (((l ++ enc len') ++ m).map (Value.int .u8)) → w1.grownBy w2 (Value.slice a1 n1 c1).ownBlock → ∃ a2 n2 c2, v2 = .slice a2 n2 c2 ∧ Has w2 a2 n2 c2 (l ++ enc len' ++ m) ∧ Below w.heap.size w w2) := fun v2 w2 O2 G2 => by
    obtain ⟨a2, c2, e2, H3⟩ := has_of_owns O2 (fun y hy => by rcases List.mem_append.1 hy with hy | hy; exact H1.bytes y hy; exact hby'.out y hy)
    exact ⟨a2, _, c2, e2, H3, b1.grown G2 b1.size (fun q e => (O1.lt q e).1)⟩
  replace O1 := hide O1
  clear P H1 b1
  go_wp2_with (at_builtin; refine wpList_app rfl (.tmp 13) (.tmp 14) rfl w.heap.size _ n1 (l ++ enc len') rfl O1.out _ len' _ m rfl H2.out (by omega) n0.out ?_; intro v2 w2 O2 G2; obtain ⟨a2, n2, c2, e2, F2⟩ := fin.out v2 w2 O2 G2; subst e2; replace F2 := hide F2; clear O2 G2 O1 H2 fin)
  go_ret2
  exact ⟨a2, n2, c2, rfl, F2.out.1, F2.out.2⟩
/-- How far samples may go into a chunk. -/
theorem far : ∀ (L : List Smp) (z : Z), (∀ s ∈ L, s.2 < 18446744073709551616) → ∃ ss : List Sm, ss.length ≤ L.length ∧ (∀ i, i < ss.length → L.getD i noSmp = up (ss.getD i (0, 0))) ∧ OkL z ss ∧ (ss.length < L.length → okTI ((fin z ss).n : Int) ((fin z ss).L : Int) (L.getD ss.length noSmp).1 = false)
  | [], z, _ => ⟨[], Nat.le_refl _, fun i hi => by simp at hi, trivial, fun h => by simp at h⟩
  | s :: L, z, hv => by
    cases h : okTI (z.n : Int) (z.L : Int) s.1 with
    | false => exact ⟨[], by simp, fun i hi => by simp at hi, trivial, fun _ => by simpa [fin] using h⟩
    | true =>
      unfold okTI isTim at h
      simp only [Bool.and_eq_true, Bool.or_eq_true, decide_eq_true_eq] at h
      have h1 := hv s (by simp)
      obtain ⟨t, ht⟩ : ∃ t : Nat, s.1 = (t : Int) := ⟨s.1.toNat, by omega⟩
      obtain ⟨ss, i1, i2, i3, i4⟩ := far L (nxt z (t, s.2)) (fun x hx => hv x (by simp [hx]))
      refine ⟨(t, s.2) :: ss, by simp; omega, fun i hi => ?_, ⟨⟨⟨by omega, by omega, ?_⟩, h1⟩, i3⟩, fun hl => ?_⟩
      · cases i with
        | zero => simp [up]; exact Prod.ext ht rfl
        | succ i => simpa using i2 i (by simpa using hi)
      · rcases h.2 with h2 | h2
        · exact .inl (by omega)
        · exact .inr (by simp only; omega)
      · have := i4 (by simpa using hl)
        simpa [fin] using this
end Go.Proofs.YtmjjedbdedemcaaGreatDoor
