/-
  Among, base.Ints; what a crash leaves is one or the other; the drawn regions of DiskEither.
-/
import Derived.Test.YtgbijkdfhkkieaaZ
namespace Go.Proofs.Ytgbijkdfhkkieaa
open Go.RowKit Go.Maps Go.Shelf
set_option linter.unusedVariables false
set_option linter.unusedSimpArgs false
theorem Hi.kept {w w' : World} {a : Option Addr} {len cap : Nat} {l : List Int} {B : Nat} (h : Hi w a len cap l) (hb : Below B w w') (hB : w.heap.size ≤ B) : Hi w' a len cap l := by
  refine ⟨h.hlen, h.le, h.capb, h.nil, fun hp => ?_, h.ints⟩
  obtain ⟨b, off, e1, e2, e3⟩ := h.cells hp
  exact ⟨b, off, e1, Nat.lt_of_lt_of_le e2 hb.size, fun i hi => (hb.cell (p := ⟨b, off + i, none⟩) (Nat.lt_of_lt_of_le e2 hB)).trans (e3 i hi)⟩
/-- An owned row of bytes has them. -/
theorem hi_of_owns {w : World} {base : Nat} {v : Value} {n : Nat} {l : List Int} (h : w.ownsRow base 3 1 v n (l.map (Value.int .i64))) (hl : ∀ x ∈ l, -9223372036854775808 ≤ x ∧ x ≤ 9223372036854775807) :
    ∃ a cap, v = .slice a n cap ∧ Hi w a n cap l := by
  have hlen : l.length = n := by simpa using h.1
  rcases h.2 with ⟨rfl, rfl⟩ | ⟨g, cap, cur, rfl, hbg, hg, hnc, hcm, hcs, htake⟩
  · exact ⟨none, 0, rfl, hlen, Nat.le_refl _, Nat.zero_le _, fun _ => rfl, fun h => by omega, hl⟩
  · refine ⟨some ⟨g, 0, none⟩, cap, rfl, hlen, hnc, hcm, (fun h => by cases h), fun hp => ⟨g, 0, rfl, ?_, fun i hi => ?_⟩, hl⟩
    · exact (Array.getElem?_eq_some_iff.1 hg).1
    · have := h.cells (g := g) rfl i (.int .i64 (l.getD i 0)) (by
        have hi' : i < l.length := by omega
        simp [List.getD, List.getElem?_eq_getElem hi'])
      rwa [add_plain] at this

theorem cells_of_hi {w : World} {a : Option Addr} {len cap : Nat} {l : List Int} (h : Hi w a len cap l) (hp : 0 < len) :
    ∃ b off, a = some ⟨b, off, none⟩ ∧ b < w.heap.size ∧ ∀ j u, (l.map (Value.int .i64))[j]? = some u → w.cell? ((⟨b, off, none⟩ : Addr).add j) = some u := by
  obtain ⟨b, off, e1, e2, e3⟩ := h.cells hp
  refine ⟨b, off, e1, e2, fun j u hj => ?_⟩
  have hjl : j < l.length := by
    rcases Nat.lt_or_ge j l.length with h | h
    · exact h
    · rw [List.getElem?_eq_none (by simpa using h)] at hj; cases hj
  rw [List.getElem?_map, List.getElem?_eq_getElem hjl] at hj
  simp only [Option.map_some, Option.some.injEq] at hj
  subst hj
  have := e3 j (by have := h.hlen; omega)
  rw [add_plain]
  simpa [List.getD, List.getElem?_eq_getElem hjl] using this

/-- A front of a slice. -/
theorem Hi.front {w : World} {a : Option Addr} {len cap : Nat} {l : List Int} (h : Hi w a len cap l) (k : Nat) (hk : k ≤ len) : Hi w a k cap (l.take k) := by
  have hl := h.hlen
  refine ⟨by simp; omega, Nat.le_trans hk h.le, h.capb, h.nil, fun hp => ?_, fun x hx => h.ints x (List.mem_of_mem_take hx)⟩
  obtain ⟨b, off, e1, e2, e3⟩ := h.cells (by omega)
  refine ⟨b, off, e1, e2, fun i hi => ?_⟩
  rw [e3 i (by omega)]
  simp [List.getD, hi]

theorem info3 : (Try.prog.info? 3).map (fun i => (i.zero, i.size, i.bytes)) = some (some (.int .i64 0), 1, 8) := by kernel_rfl
theorem wpList_appI {w : World} {ops : Array Oper} {rest : List Oper} {o : Oper} {a : Act} {Q : Exit → Act → World → Prop} (hgd : o.guard = none) (s x : Operand)
    (ho : o.op = .call { callee := .builtin .append, args := #[s, x], argTypes := #[24, 24] })
    (base : Nat) (v : Value) (n : Nat) (l : List Int) (hs : a.eval s = v) (hown : w.ownsRow base 3 1 v n (l.map (Value.int .i64)))
    (ax : Option Addr) (len cap : Nat) (lx : List Int) (hx : a.eval x = .slice ax len cap) (hh : Hi w ax len cap lx)
    (hb : n + len ≤ 4398046511104) (hbase : base ≤ w.heap.size)
    (h : ∀ v' w', w'.ownsRow base 3 1 v' (n + len) ((l ++ lx).map (Value.int .i64)) → w.grownBy w' v.ownBlock → wpList Try.prog ops Q rest (a.put o.dst v') w') :
    wpList Try.prog ops Q (o :: rest) a w := by
  obtain ⟨i0, hi, hz0, hz1, hz2⟩ := info_parts info3
  cases ax with
  | none =>
    have hc := hh.nil rfl
    have hl := hh.le
    subst hc
    obtain rfl : len = 0 := by omega
    obtain rfl : lx = [] := List.eq_nil_of_length_eq_zero hh.hlen
    refine wpList_append_own_none hgd s x 24 ho base 3 i0 1 Try.underlying24 hi v n (l.map (Value.int .i64)) hs hown hx ?_
    exact h v w (by simpa using hown) (World.grownBy.refl w _)
  | some ad =>
    refine wpList_append_own w hgd s x 24 ho base 3 i0 (.int .i64 0) 1 8 Try.underlying24 hi hz0 hz1 hz2 rfl (by decide) v n (l.map (Value.int .i64)) hs hown ad len cap (lx.map (Value.int .i64)) hx
      (by simp [hh.hlen]) ?_ (ints_oneCell _ _) (by unfold maxLen; omega) (by omega) hbase ?_
    · intro j u hj
      by_cases hp : 0 < len
      · obtain ⟨b, off, e1, e2, e3⟩ := cells_of_hi hh hp
        cases e1
        exact e3 j u hj
      · obtain rfl : lx = [] := List.eq_nil_of_length_eq_zero (by have := hh.hlen; omega)
        simp at hj
    · intro v' w' h1 h2 _
      exact h v' w' (by simpa using h1) h2

theorem owns_emptyI (w : World) : (w.alloc (.cells #[] 3)).ownsRow w.heap.size 3 1 (.slice (some ⟨w.heap.size, 0, none⟩) 0 0) 0 (([] : List Int).map (Value.int .i64)) := by
  simpa using World.ownsRow_made (e := 3) (size := 1) w #[] 0 (Nat.le_refl _) (Nat.zero_le _) (by simp)

set_option maxHeartbeats 400000 in
theorem ints_any (w : World) (a : Option Addr) (len cap : Nat) (l : List Int) (h : Hi w a len cap l) (hb : len ≤ 1099511627776) :
    Calls Try.prog 19 #[.slice a len cap] w fun e w' => ∃ a2 n2 c2, e = .returned (.slice a2 n2 c2) ∧ Hi w' a2 n2 c2 l ∧ Below w.heap.size w w' ∧ ∀ k, (Value.slice a2 n2 c2).ownBlock = some k → w.heap.size ≤ k := by
  have H := h.kept ((Below.refl w.heap.size w).alloc (Nat.le_refl _) (.cells #[] 3)) (Nat.le_refl _)
  have hl := h.ints
  have hB : Below w.heap.size w (w.alloc (.cells #[] 3)) := (Below.refl _ _).alloc (Nat.le_refl _) _
  have O := owns_emptyI w
  clear h
  go_enter Try.func19, Try.ntmps19
  go_wp2_with (at_builtin; refine wpList_appI rfl (.tmp 3) (.tmp 4) rfl w.heap.size _ 0 [] rfl O a len cap l rfl H (by omega) (by simp) ?_; intro v' w' h1 h2)
  go_ret
  have h1' : w'.ownsRow w.heap.size 3 1 v' (0 + len) (l.map (Value.int .i64)) := by simpa using h1
  obtain ⟨a2, c2, rfl, hh⟩ := hi_of_owns h1' hl
  exact ⟨a2, 0 + len, c2, rfl, hh, hB.grown h2 (by simp) (fun k hk => (O.lt k hk).1), fun k hk => (h1'.lt k hk).1⟩
theorem among_val (x : Int) (n : Nat) (h1 : 1 ≤ n) : 0 ≤ (IntKind.u64.wrap x).tmod (n : Int) ∧ (IntKind.u64.wrap x).tmod (n : Int) < (n : Int) := by
  rw [IntKind.wrap_u64]
  have h : 0 ≤ x % 18446744073709551616 := Int.emod_nonneg _ (by decide)
  rw [Int.tmod_eq_emod_of_nonneg h]
  exact ⟨Int.emod_nonneg _ (by omega), Int.emod_lt_of_pos _ (by omega)⟩
theorem among_wrap (y : Int) {n : Nat} (v : 0 ≤ y ∧ y < (n : Int)) (h2 : n ≤ 9223372036854775807) : wrap64 y = ((y.toNat : Nat) : Int) := by
  unfold wrap64
  omega
/-- A number as one from 0 to n - 1. -/
def amg (x : Int) (n : Nat) : Nat := ((IntKind.u64.wrap x).tmod (n : Int)).toNat
theorem amg_lt (x : Int) (n : Nat) (h1 : 1 ≤ n) : amg x n < n := by have := among_val x n h1; unfold amg; omega

set_option maxHeartbeats 400000 in
theorem among_any (x : Int) (n : Nat) (hx : -9223372036854775808 ≤ x ∧ x ≤ 9223372036854775807) (h1 : 1 ≤ n) (h2 : n ≤ 9223372036854775807) (w : World) :
    Calls Try.prog 26 #[.int .i64 x, .int .i64 (n : Int)] w fun e w' => e = .returned (.int .i64 (amg x n : Int)) ∧ w' = w := by
  have hn : (1 : Int) ≤ (n : Int) := by omega
  have hn' : (n : Int) ≤ 9223372036854775807 := by omega
  go_enter Try.func26, Try.ntmps26
  go_wp2
  go_ret
  have v := among_val x n h1
  exact ⟨ret_int (among_wrap _ v h2), rfl⟩
theorem run_h24 (w : World) (a : Option Addr) (len cap sz : Nat) (h : sz ≤ cap) : (Instr.sliceAt 24 (.slice a len cap) none (some (.int .i64 (sz : Int))) none).run Try.prog w = .ok (.slice a sz cap) w := by
  have h1 : ((sz : Nat) : Int) ≤ (cap : Int) := by omega
  have hz : (Try.prog.info? 3).map (·.size) = some 1 := by
    obtain ⟨i0, hi, hz0, hz1, hz2⟩ := info_parts info3
    simp [hi, hz1]
  cases a with
  | none => simp [go_sem, h, h1]
  | some ad =>
    by_cases hc : cap = 0
    · subst hc
      obtain rfl : sz = 0 := by omega
      simp [go_sem, Addr.add]
    · simp [go_sem, h, h1, hc, Addr.add]
theorem mixS_either {S N : List Int} (p : List Int) (h : N.length = S.length) (i : Nat) : (mixS S N p).1.getD i 0 = S.getD i 0 ∨ (mixS S N p).1.getD i 0 = N.getD i 0 := by
  unfold mixS
  split
  · exact .inl rfl
  · split
    · exact .inr rfl
    · split
      · simp only
        generalize ((nx p).1 / 3 % 256).toNat = k
        simp only [List.getD_eq_getElem?_getD, List.getElem?_append, List.getElem?_take, List.getElem?_drop, List.length_take]
        by_cases hi : i < N.length
        · by_cases hk : i < k
          · right
            rw [if_pos (by omega), if_pos hk]
          · left
            rw [if_neg (by omega), show k + (i - min k N.length) = i by omega]
        · left
          rw [if_neg (by omega), List.getElem?_eq_none (by omega), List.getElem?_eq_none (by omega)]
      · exact .inl rfl
theorem getD_app (X Y : List Int) (i : Nat) : (X ++ Y).getD i 0 = if i < X.length then X.getD i 0 else Y.getD (i - X.length) 0 := by
  simp only [List.getD_eq_getElem?_getD, List.getElem?_append]
  split <;> rfl
theorem getD_dr (L : List Int) (k i : Nat) : (L.drop k).getD i 0 = L.getD (k + i) 0 := by simp [List.getD_eq_getElem?_getD, List.getElem?_drop]
theorem getD_tk (L : List Int) {k i : Nat} (h : i < k) : (L.take k).getD i 0 = L.getD i 0 := by simp [List.getD_eq_getElem?_getD, List.getElem?_take, h]
theorem mxA_either : ∀ (f : Nat) (S N p : List Int), N.length = S.length → ∀ i, (mxA f S N p).1.getD i 0 = S.getD i 0 ∨ (mxA f S N p).1.getD i 0 = N.getD i 0
  | 0, S, N, p, _, i => .inl rfl
  | f + 1, S, N, p, h, i => by
    unfold mxA
    split
    · rename_i e; rw [e]; exact .inl rfl
    · simp only
      have hl : (mixS (S.take 256) (N.take 256) p).1.length = min 256 S.length := by rw [mixS_length _ (by simp [h])]; simp
      rw [getD_app, hl]
      by_cases hi : i < min 256 S.length
      · rw [if_pos hi]
        have := mixS_either (S := S.take 256) (N := N.take 256) p (by simp [h]) i
        rw [getD_tk S (by omega), getD_tk N (by omega)] at this
        exact this
      · rw [if_neg hi]
        by_cases hS : 256 ≤ S.length
        · have := mxA_either f (S.drop 256) (N.drop 256) (mixS (S.take 256) (N.take 256) p).2 (by simp [h]) (i - 256)
          rw [getD_dr, getD_dr, show 256 + (i - 256) = i by omega] at this
          rwa [show min 256 S.length = 256 by omega]
        · rw [List.drop_eq_nil_of_le (by omega), mxA_nil]
          left
          simp [List.getD_eq_getElem?_getD, List.getElem?_eq_none (show S.length ≤ i by omega)]
theorem fil_getD (l : List Int) (sz i : Nat) (hi : i < sz) : (fil l sz).getD i 0 = l.getD i 0 := by
  unfold fil
  rw [getD_app]
  split
  · exact getD_tk l hi
  · rename_i h
    simp only [List.length_take] at h
    have hz : ∀ (n k : Nat), (List.replicate n (0 : Int)).getD k 0 = 0 := fun n k => by
      simp only [List.getD_eq_getElem?_getD, List.getElem?_replicate]
      split <;> rfl
    rw [hz]
    simp [List.getD_eq_getElem?_getD, List.getElem?_eq_none (show l.length ≤ i by omega)]
/-- Behind a crash each byte is what was sure, or what the file had. -/
theorem crF_either (now sure ps : List Int) (i : Nat) (hi : i < (crF now sure ps).1.length) : (crF now sure ps).1.getD i 0 = sure.getD i 0 ∨ (crF now sure ps).1.getD i 0 = now.getD i 0 := by
  rw [crF_length] at hi
  have := mxA_either (crSz now sure ps).1 (fil sure (crSz now sure ps).1) (fil now (crSz now sure ps).1) (crSz now sure ps).2 (by rw [fil_length, fil_length]) i
  rw [fil_getD _ _ _ hi, fil_getD _ _ _ hi] at this
  exact this
set_option maxHeartbeats 4000000 in
set_option maxRecDepth 100000 in
theorem reg4_6 (w : World) (a b : Option Addr) (la lb ca cb ma mb : Nat) (x1 : (if (la : Int) < 1500 then (la : Int) else 1500) = (ma : Int)) (x2 : (if (1500 : Int) < (la : Int) then 1500 else (la : Int)) = (ma : Int)) (x3 : min (la : Int) 1500 = (ma : Int)) (y1 : (if (lb : Int) < 1500 then (lb : Int) else 1500) = (mb : Int)) (y2 : (if (1500 : Int) < (lb : Int) then 1500 else (lb : Int)) = (mb : Int)) (y3 : min (lb : Int) 1500 = (mb : Int)) (ra : ∀ w : World, (Instr.sliceAt 23 (.slice a la ca) none (some (.int .i64 (ma : Int))) none).run Try.prog w = .ok (.slice a ma ca) w) (rb : ∀ w : World, (Instr.sliceAt 23 (.slice b lb cb) none (some (.int .i64 (mb : Int))) none).run Try.prog w = .ok (.slice b mb cb) w)
    (u2 u3 u4 u5 u6 u7 u8 u9 u10 u11 u12 u13 u14 u15 u16 u17 u18 u19 u20 u21 u22 u23 u24 u25 u26 u27 u28 u29 u30 u31 u32 u33 u34 u35 u36 u37 u38 u39 u40 u41 u42 u43 u44 u45 u46 u47 u48 u49 u50 u51 u52 u53 u54 u55 u56 u57 u58 u59 u60 u61 u62 u63 u64 u65 u66 u67 u68 u69 u70 u71 u72 u73 u74 u75 u76 u77 u78 u79 u80 u81 u82 u83 u84 u85 u86 u87 u88 u89 u90 u91 u92 u93 u94 u95 u96 u97 u98 u99 u100 u101 u102 u103 u104 u105 u106 u107 u108 u109 u110 u111 u112 u113 u114 u115 u116 u117 u118 u119 u120 u121 u122 u123 u124 u125 u126 u127 u128 u129 u130 u131 u132 u133 u134 u135 u136 u137 u138 : Value) (Q : Exit → Act → World → Prop)
    (h : Q .normal { tmps := (List.toArray ((.slice a ma ca :: .slice b mb cb :: u2 :: u3 :: u4 :: u5 :: u6 :: u7 :: u8 :: u9 :: u10 :: u11 :: u12 :: u13 :: u14 :: u15 :: u16 :: u17 :: u18 :: u19 :: u20 :: u21 :: u22 :: u23 :: u24 :: u25 :: u26 :: .slice a la ca :: .slice a la ca :: .int .i64 (la : Int) :: .int .i64 (ma : Int) :: .slice a ma ca :: .slice b lb cb :: .slice b lb cb :: .int .i64 (lb : Int) :: .int .i64 (mb : Int) :: .slice b mb cb :: u37 :: u38 :: u39 :: u40 :: u41 :: u42 :: u43 :: u44 :: u45 :: u46 :: u47 :: u48 :: u49 :: u50 :: u51 :: u52 :: u53 :: u54 :: u55 :: u56 :: u57 :: u58 :: u59 :: u60 :: u61 :: u62 :: u63 :: u64 :: u65 :: u66 :: u67 :: u68 :: u69 :: u70 :: u71 :: u72 :: u73 :: u74 :: u75 :: u76 :: u77 :: u78 :: u79 :: u80 :: u81 :: u82 :: u83 :: u84 :: u85 :: u86 :: u87 :: u88 :: u89 :: u90 :: u91 :: u92 :: u93 :: u94 :: u95 :: u96 :: u97 :: u98 :: u99 :: u100 :: u101 :: u102 :: u103 :: u104 :: u105 :: u106 :: u107 :: u108 :: u109 :: u110 :: u111 :: u112 :: u113 :: u114 :: u115 :: u116 :: u117 :: u118 :: u119 :: u120 :: u121 :: u122 :: u123 :: u124 :: u125 :: u126 :: u127 :: u128 :: u129 :: u130 :: u131 :: u132 :: u133 :: u134 :: u135 :: u136 :: u137 :: u138 :: []) : List Value)), defers := [] } w.drew) :
    (Code.region 6 #[{ dst := some 27, op := Op.move (Operand.tmp 0), type := 23, pos := "law.go:185", after := #[], guard := none }, { dst := some 28, op := Op.move (Operand.tmp 0), type := 23, pos := "law.go:185", after := #[], guard := none }, { dst := some 29, op := Op.call { callee := Callee.builtin Builtin.len, args := #[Operand.tmp 28], argTypes := #[23] }, type := 3, pos := "law.go:185", after := #[{ on := 1, ground := Ground.data }], guard := none }, { dst := some 30, op := Op.call { callee := Callee.builtin Builtin.min, args := #[Operand.tmp 29, Operand.const (Value.int IntKind.i64 1500)], argTypes := #[3, 3] }, type := 3, pos := "law.go:185", after := #[{ on := 2, ground := Ground.data }], guard := none }, { dst := some 31, op := Op.slice 23 (Operand.tmp 27) none (some (Operand.tmp 30)) none, type := 23, pos := "law.go:185", after := #[{ on := 0, ground := Ground.data }, { on := 3, ground := Ground.data }], guard := none }, { dst := some 32, op := Op.move (Operand.tmp 1), type := 23, pos := "law.go:185", after := #[], guard := none }, { dst := some 33, op := Op.move (Operand.tmp 1), type := 23, pos := "law.go:185", after := #[], guard := none }, { dst := some 34, op := Op.call { callee := Callee.builtin Builtin.len, args := #[Operand.tmp 33], argTypes := #[23] }, type := 3, pos := "law.go:185", after := #[{ on := 6, ground := Ground.data }], guard := none }, { dst := some 35, op := Op.call { callee := Callee.builtin Builtin.min, args := #[Operand.tmp 34, Operand.const (Value.int IntKind.i64 1500)], argTypes := #[3, 3] }, type := 3, pos := "law.go:185", after := #[{ on := 7, ground := Ground.data }], guard := none }, { dst := some 36, op := Op.slice 23 (Operand.tmp 32) none (some (Operand.tmp 35)) none, type := 23, pos := "law.go:185", after := #[{ on := 5, ground := Ground.data }, { on := 8, ground := Ground.data }], guard := none }, { dst := some 0, op := Op.assign (Operand.tmp 31), type := 23, pos := "law.go:185", after := #[{ on := 4, ground := Ground.data }, { on := 0, ground := Ground.phase }, { on := 1, ground := Ground.phase }, { on := 2, ground := Ground.phase }, { on := 3, ground := Ground.phase }, { on := 4, ground := Ground.phase }, { on := 5, ground := Ground.textOnly Departure.lateStores }, { on := 6, ground := Ground.textOnly Departure.lateStores }, { on := 7, ground := Ground.textOnly Departure.lateStoresUnsure }, { on := 8, ground := Ground.textOnly Departure.lateStoresUnsure }, { on := 9, ground := Ground.textOnly Departure.lateStoresUnsure }], guard := none }, { dst := some 1, op := Op.assign (Operand.tmp 36), type := 23, pos := "law.go:185", after := #[{ on := 9, ground := Ground.data }, { on := 10, ground := Ground.chain }, { on := 0, ground := Ground.phase }, { on := 1, ground := Ground.phase }, { on := 2, ground := Ground.phase }, { on := 3, ground := Ground.phase }, { on := 4, ground := Ground.phase }, { on := 5, ground := Ground.phase }, { on := 6, ground := Ground.phase }, { on := 7, ground := Ground.phase }, { on := 8, ground := Ground.phase }, { on := 9, ground := Ground.phase }, { on := 10, ground := Ground.phase }], guard := none }] true).wp Try.prog Q { tmps := (List.toArray ((.slice a la ca :: .slice b lb cb :: u2 :: u3 :: u4 :: u5 :: u6 :: u7 :: u8 :: u9 :: u10 :: u11 :: u12 :: u13 :: u14 :: u15 :: u16 :: u17 :: u18 :: u19 :: u20 :: u21 :: u22 :: u23 :: u24 :: u25 :: u26 :: u27 :: u28 :: u29 :: u30 :: u31 :: u32 :: u33 :: u34 :: u35 :: u36 :: u37 :: u38 :: u39 :: u40 :: u41 :: u42 :: u43 :: u44 :: u45 :: u46 :: u47 :: u48 :: u49 :: u50 :: u51 :: u52 :: u53 :: u54 :: u55 :: u56 :: u57 :: u58 :: u59 :: u60 :: u61 :: u62 :: u63 :: u64 :: u65 :: u66 :: u67 :: u68 :: u69 :: u70 :: u71 :: u72 :: u73 :: u74 :: u75 :: u76 :: u77 :: u78 :: u79 :: u80 :: u81 :: u82 :: u83 :: u84 :: u85 :: u86 :: u87 :: u88 :: u89 :: u90 :: u91 :: u92 :: u93 :: u94 :: u95 :: u96 :: u97 :: u98 :: u99 :: u100 :: u101 :: u102 :: u103 :: u104 :: u105 :: u106 :: u107 :: u108 :: u109 :: u110 :: u111 :: u112 :: u113 :: u114 :: u115 :: u116 :: u117 :: u118 :: u119 :: u120 :: u121 :: u122 :: u123 :: u124 :: u125 :: u126 :: u127 :: u128 :: u129 :: u130 :: u131 :: u132 :: u133 :: u134 :: u135 :: u136 :: u137 :: u138 :: []) : List Value)), defers := [] } w := by
  replace h := hide h
  refine wp_region_noPanic ?_
  refine wp_region_any (by kernel_rfl) ?_
  change wpAny _ _ _ _ _ _ _ (World.drew w)
  refine wpAny_take (i := 0) (oi := { dst := some 27, op := Op.move (Operand.tmp 0), type := 23, pos := "law.go:185", after := #[], guard := none }) (v := ?_) rfl (by kernel_rfl) (by kernel_rfl) (by kernel_rfl) (fun _ _ _ h => h) (Or.inl ⟨by rfl, ?_⟩) ?_
  rotate_left
  · intro w'
    go_simp
    try with_reducible rfl
  try simp only [Act.put, List.setIfInBounds_toArray, List.set_cons_zero, List.set_cons_succ]
  refine wpAny_take (i := 1) (oi := { dst := some 28, op := Op.move (Operand.tmp 0), type := 23, pos := "law.go:185", after := #[], guard := none }) (v := ?_) rfl (by kernel_rfl) (by kernel_rfl) (by kernel_rfl) (fun _ _ _ h => h) (Or.inl ⟨by rfl, ?_⟩) ?_
  rotate_left
  · intro w'
    go_simp
    try with_reducible rfl
  try simp only [Act.put, List.setIfInBounds_toArray, List.set_cons_zero, List.set_cons_succ]
  refine wpAny_take (i := 2) (oi := { dst := some 29, op := Op.call { callee := Callee.builtin Builtin.len, args := #[Operand.tmp 28], argTypes := #[23] }, type := 3, pos := "law.go:185", after := #[{ on := 1, ground := Ground.data }], guard := none }) (v := ?_) rfl (by kernel_rfl) (by kernel_rfl) (by kernel_rfl) (fun _ _ _ h => h) (Or.inl ⟨by rfl, ?_⟩) ?_
  rotate_left
  · intro w'
    go_simp
    try with_reducible rfl
  try simp only [Act.put, List.setIfInBounds_toArray, List.set_cons_zero, List.set_cons_succ]
  refine wpAny_take (i := 3) (oi := { dst := some 30, op := Op.call { callee := Callee.builtin Builtin.min, args := #[Operand.tmp 29, Operand.const (Value.int IntKind.i64 1500)], argTypes := #[3, 3] }, type := 3, pos := "law.go:185", after := #[{ on := 2, ground := Ground.data }], guard := none }) (v := ?_) rfl (by kernel_rfl) (by kernel_rfl) (by kernel_rfl) (fun _ _ _ h => h) (Or.inl ⟨by rfl, ?_⟩) ?_
  rotate_left
  · intro w'
    go_simp
    try with_reducible rfl
  try simp only [Act.put, List.setIfInBounds_toArray, List.set_cons_zero, List.set_cons_succ]
  refine wpAny_take (i := 4) (oi := { dst := some 31, op := Op.slice 23 (Operand.tmp 27) none (some (Operand.tmp 30)) none, type := 23, pos := "law.go:185", after := #[{ on := 0, ground := Ground.data }, { on := 3, ground := Ground.data }], guard := none }) (v := ?_) rfl (by kernel_rfl) (by kernel_rfl) (by kernel_rfl) (fun _ _ _ h => h) (Or.inl ⟨by rfl, ?_⟩) ?_
  rotate_left
  · intro w'
    go_simp
    try with_reducible rfl
  try simp only [Act.put, List.setIfInBounds_toArray, List.set_cons_zero, List.set_cons_succ]
  refine wpAny_take (i := 5) (oi := { dst := some 32, op := Op.move (Operand.tmp 1), type := 23, pos := "law.go:185", after := #[], guard := none }) (v := ?_) rfl (by kernel_rfl) (by kernel_rfl) (by kernel_rfl) (fun _ _ _ h => h) (Or.inl ⟨by rfl, ?_⟩) ?_
  rotate_left
  · intro w'
    go_simp
    try with_reducible rfl
  try simp only [Act.put, List.setIfInBounds_toArray, List.set_cons_zero, List.set_cons_succ]
  refine wpAny_take (i := 6) (oi := { dst := some 33, op := Op.move (Operand.tmp 1), type := 23, pos := "law.go:185", after := #[], guard := none }) (v := ?_) rfl (by kernel_rfl) (by kernel_rfl) (by kernel_rfl) (fun _ _ _ h => h) (Or.inl ⟨by rfl, ?_⟩) ?_
  rotate_left
  · intro w'
    go_simp
    try with_reducible rfl
  try simp only [Act.put, List.setIfInBounds_toArray, List.set_cons_zero, List.set_cons_succ]
  refine wpAny_take (i := 7) (oi := { dst := some 34, op := Op.call { callee := Callee.builtin Builtin.len, args := #[Operand.tmp 33], argTypes := #[23] }, type := 3, pos := "law.go:185", after := #[{ on := 6, ground := Ground.data }], guard := none }) (v := ?_) rfl (by kernel_rfl) (by kernel_rfl) (by kernel_rfl) (fun _ _ _ h => h) (Or.inl ⟨by rfl, ?_⟩) ?_
  rotate_left
  · intro w'
    go_simp
    try with_reducible rfl
  try simp only [Act.put, List.setIfInBounds_toArray, List.set_cons_zero, List.set_cons_succ]
  refine wpAny_take (i := 8) (oi := { dst := some 35, op := Op.call { callee := Callee.builtin Builtin.min, args := #[Operand.tmp 34, Operand.const (Value.int IntKind.i64 1500)], argTypes := #[3, 3] }, type := 3, pos := "law.go:185", after := #[{ on := 7, ground := Ground.data }], guard := none }) (v := ?_) rfl (by kernel_rfl) (by kernel_rfl) (by kernel_rfl) (fun _ _ _ h => h) (Or.inl ⟨by rfl, ?_⟩) ?_
  rotate_left
  · intro w'
    go_simp
    try with_reducible rfl
  try simp only [Act.put, List.setIfInBounds_toArray, List.set_cons_zero, List.set_cons_succ]
  refine wpAny_take (i := 9) (oi := { dst := some 36, op := Op.slice 23 (Operand.tmp 32) none (some (Operand.tmp 35)) none, type := 23, pos := "law.go:185", after := #[{ on := 5, ground := Ground.data }, { on := 8, ground := Ground.data }], guard := none }) (v := ?_) rfl (by kernel_rfl) (by kernel_rfl) (by kernel_rfl) (fun _ _ _ h => h) (Or.inl ⟨by rfl, ?_⟩) ?_
  rotate_left
  · intro w'
    go_simp
    try with_reducible rfl
  try simp only [Act.put, List.setIfInBounds_toArray, List.set_cons_zero, List.set_cons_succ]
  refine wpAny_take (i := 10) (oi := { dst := some 0, op := Op.assign (Operand.tmp 31), type := 23, pos := "law.go:185", after := #[{ on := 4, ground := Ground.data }, { on := 0, ground := Ground.phase }, { on := 1, ground := Ground.phase }, { on := 2, ground := Ground.phase }, { on := 3, ground := Ground.phase }, { on := 4, ground := Ground.phase }, { on := 5, ground := Ground.textOnly Departure.lateStores }, { on := 6, ground := Ground.textOnly Departure.lateStores }, { on := 7, ground := Ground.textOnly Departure.lateStoresUnsure }, { on := 8, ground := Ground.textOnly Departure.lateStoresUnsure }, { on := 9, ground := Ground.textOnly Departure.lateStoresUnsure }], guard := none }) (v := ?_) rfl (by kernel_rfl) (by kernel_rfl) (by kernel_rfl) (fun _ _ _ h => h) (Or.inl ⟨by rfl, ?_⟩) ?_
  rotate_left
  · intro w'
    go_simp
    try with_reducible rfl
  try simp only [Act.put, List.setIfInBounds_toArray, List.set_cons_zero, List.set_cons_succ]
  refine wpAny_take (i := 11) (oi := { dst := some 1, op := Op.assign (Operand.tmp 36), type := 23, pos := "law.go:185", after := #[{ on := 9, ground := Ground.data }, { on := 10, ground := Ground.chain }, { on := 0, ground := Ground.phase }, { on := 1, ground := Ground.phase }, { on := 2, ground := Ground.phase }, { on := 3, ground := Ground.phase }, { on := 4, ground := Ground.phase }, { on := 5, ground := Ground.phase }, { on := 6, ground := Ground.phase }, { on := 7, ground := Ground.phase }, { on := 8, ground := Ground.phase }, { on := 9, ground := Ground.phase }, { on := 10, ground := Ground.phase }], guard := none }) (v := ?_) rfl (by kernel_rfl) (by kernel_rfl) (by kernel_rfl) (fun _ _ _ h => h) (Or.inl ⟨by rfl, ?_⟩) ?_
  rotate_left
  · intro w'
    go_simp
    try with_reducible rfl
  try simp only [Act.put, List.setIfInBounds_toArray, List.set_cons_zero, List.set_cons_succ]
  refine wpAny_done (by kernel_rfl) ?_ _
  refine NoPanic.normal ?_
  exact h.out
set_option maxHeartbeats 4000000 in
set_option maxRecDepth 100000 in
theorem reg4_23a (w : World) (an : Option Addr) (bx ox lx cx ln cn i : Nat) (sv : Int) (hi : i < lx) (hlx : lx ≤ 1000000) (c1 : w.cell? ⟨bx, ox + i, none⟩ = some (.int .u8 sv))
    (u0 u1 u2 u3 u4 u5 u6 u7 u8 u9 u10 u11 u13 u14 u16 u19 u20 u21 u22 u23 u24 u25 u26 u27 u28 u29 u30 u31 u32 u33 u34 u35 u36 u37 u38 u39 u40 u41 u42 u43 u44 u45 u46 u47 u48 u49 u50 u51 u52 u53 u54 u55 u56 u57 u58 u59 u60 u61 u62 u63 u64 u65 u66 u67 u68 u69 u70 u71 u72 u73 u74 u75 u76 u77 u78 u79 u80 u81 u82 u83 u84 u85 u86 u87 u88 u89 u90 u91 u92 u93 u94 u95 u96 u97 u98 u99 u100 u101 u102 u103 u104 u105 u106 u107 u108 u109 u110 u111 u112 u113 u114 u115 u116 u117 u118 u119 u120 u121 u122 u123 u124 u125 u126 u127 u128 u129 u130 u131 u132 u133 u134 u135 u136 u137 u138 : Value) (Q : Exit → Act → World → Prop)
    (h : Q .normal { tmps := (List.toArray ((u0 :: u1 :: u2 :: u3 :: u4 :: u5 :: u6 :: u7 :: u8 :: u9 :: u10 :: u11 :: .slice an ln cn :: u13 :: u14 :: .slice (some ⟨bx, ox, none⟩) lx cx :: u16 :: .int .i64 (i : Int) :: .int .u8 sv :: u19 :: u20 :: u21 :: u22 :: u23 :: u24 :: u25 :: u26 :: u27 :: u28 :: u29 :: u30 :: u31 :: u32 :: u33 :: u34 :: u35 :: u36 :: u37 :: u38 :: u39 :: u40 :: u41 :: u42 :: u43 :: u44 :: u45 :: u46 :: u47 :: u48 :: u49 :: u50 :: u51 :: u52 :: u53 :: u54 :: u55 :: u56 :: u57 :: u58 :: u59 :: u60 :: u61 :: u62 :: u63 :: u64 :: u65 :: u66 :: u67 :: u68 :: u69 :: u70 :: u71 :: u72 :: u73 :: u74 :: u75 :: u76 :: u77 :: u78 :: u79 :: u80 :: u81 :: u82 :: u83 :: u84 :: u85 :: u86 :: u87 :: u88 :: u89 :: u90 :: u91 :: u92 :: u93 :: u94 :: u95 :: u96 :: u97 :: u98 :: u99 :: u100 :: u101 :: u102 :: u103 :: u104 :: u105 :: u106 :: u107 :: u108 :: u109 :: u110 :: u111 :: u112 :: u113 :: u114 :: u115 :: .slice (some ⟨bx, ox, none⟩) lx cx :: .int .i64 (i : Int) :: .pointer (some ⟨bx, ox + i, none⟩) :: .int .u8 sv :: .int .u8 sv :: .bool false :: .bool false :: undef :: undef :: undef :: undef :: undef :: undef :: undef :: undef :: undef :: undef :: undef :: undef :: undef :: undef :: undef :: .bool false :: []) : List Value)), defers := [] } w.drew) :
    (Code.region 23 #[{ dst := some 116, op := Op.move (Operand.tmp 15), type := 23, pos := "law.go:202", after := #[], guard := none }, { dst := some 117, op := Op.move (Operand.tmp 17), type := 3, pos := "law.go:202", after := #[], guard := none }, { dst := some 118, op := Op.indexAddr 23 (Operand.tmp 116) (Operand.tmp 117), type := 0, pos := "law.go:202", after := #[{ on := 0, ground := Ground.data }, { on := 1, ground := Ground.data }], guard := none }, { dst := some 119, op := Op.load 5 (Operand.tmp 118), type := 5, pos := "law.go:202", after := #[{ on := 2, ground := Ground.data }], guard := none }, { dst := some 120, op := Op.move (Operand.tmp 18), type := 5, pos := "law.go:202", after := #[], guard := none }, { dst := some 121, op := Op.binOp BinOp.neq 5 (Operand.tmp 119) (Operand.tmp 120) 5, type := 4, pos := "law.go:202", after := #[{ on := 3, ground := Ground.data }, { on := 4, ground := Ground.data }], guard := none }, { dst := some 122, op := Op.move (Operand.tmp 121), type := 4, pos := "law.go:202", after := #[{ on := 5, ground := Ground.data }], guard := none }, { dst := some 123, op := Op.move (Operand.tmp 17), type := 3, pos := "law.go:202", after := #[{ on := 6, ground := Ground.guard }], guard := some (6, true) }, { dst := some 124, op := Op.move (Operand.tmp 12), type := 23, pos := "law.go:202", after := #[{ on := 6, ground := Ground.guard }], guard := some (6, true) }, { dst := some 125, op := Op.call { callee := Callee.builtin Builtin.len, args := #[Operand.tmp 124], argTypes := #[23] }, type := 3, pos := "law.go:202", after := #[{ on := 8, ground := Ground.data }, { on := 6, ground := Ground.guard }], guard := some (6, true) }, { dst := some 126, op := Op.binOp BinOp.geq 3 (Operand.tmp 123) (Operand.tmp 125) 3, type := 4, pos := "law.go:202", after := #[{ on := 7, ground := Ground.data }, { on := 9, ground := Ground.data }, { on := 6, ground := Ground.guard }], guard := some (6, true) }, { dst := some 127, op := Op.move (Operand.tmp 126), type := 4, pos := "law.go:202", after := #[{ on := 10, ground := Ground.data }, { on := 6, ground := Ground.chain }, { on := 6, ground := Ground.guard }], guard := some (6, true) }, { dst := some 128, op := Op.move (Operand.tmp 15), type := 23, pos := "law.go:202", after := #[{ on := 11, ground := Ground.guard }], guard := some (11, false) }, { dst := some 129, op := Op.move (Operand.tmp 17), type := 3, pos := "law.go:202", after := #[{ on := 11, ground := Ground.guard }], guard := some (11, false) }, { dst := some 130, op := Op.indexAddr 23 (Operand.tmp 128) (Operand.tmp 129), type := 0, pos := "law.go:202", after := #[{ on := 12, ground := Ground.data }, { on := 13, ground := Ground.data }, { on := 11, ground := Ground.guard }], guard := some (11, false) }, { dst := some 131, op := Op.load 5 (Operand.tmp 130), type := 5, pos := "law.go:202", after := #[{ on := 14, ground := Ground.data }, { on := 11, ground := Ground.guard }], guard := some (11, false) }, { dst := some 132, op := Op.move (Operand.tmp 12), type := 23, pos := "law.go:202", after := #[{ on := 11, ground := Ground.guard }], guard := some (11, false) }, { dst := some 133, op := Op.move (Operand.tmp 17), type := 3, pos := "law.go:202", after := #[{ on := 11, ground := Ground.guard }], guard := some (11, false) }, { dst := some 134, op := Op.indexAddr 23 (Operand.tmp 132) (Operand.tmp 133), type := 0, pos := "law.go:202", after := #[{ on := 16, ground := Ground.data }, { on := 17, ground := Ground.data }, { on := 11, ground := Ground.guard }], guard := some (11, false) }, { dst := some 135, op := Op.load 5 (Operand.tmp 134), type := 5, pos := "law.go:202", after := #[{ on := 18, ground := Ground.data }, { on := 11, ground := Ground.guard }], guard := some (11, false) }, { dst := some 136, op := Op.binOp BinOp.neq 5 (Operand.tmp 131) (Operand.tmp 135) 5, type := 4, pos := "law.go:202", after := #[{ on := 15, ground := Ground.data }, { on := 19, ground := Ground.data }, { on := 11, ground := Ground.guard }], guard := some (11, false) }, { dst := some 137, op := Op.pick (Operand.tmp 127) (Operand.const (Value.bool true)) (Operand.tmp 136), type := 4, pos := "law.go:202", after := #[{ on := 11, ground := Ground.data }, { on := 20, ground := Ground.data }, { on := 6, ground := Ground.guard }], guard := some (6, true) }, { dst := some 138, op := Op.pick (Operand.tmp 122) (Operand.tmp 137) (Operand.const (Value.bool false)), type := 4, pos := "law.go:202", after := #[{ on := 6, ground := Ground.data }, { on := 21, ground := Ground.data }], guard := none }] true).wp Try.prog Q { tmps := (List.toArray ((u0 :: u1 :: u2 :: u3 :: u4 :: u5 :: u6 :: u7 :: u8 :: u9 :: u10 :: u11 :: .slice an ln cn :: u13 :: u14 :: .slice (some ⟨bx, ox, none⟩) lx cx :: u16 :: .int .i64 (i : Int) :: .int .u8 sv :: u19 :: u20 :: u21 :: u22 :: u23 :: u24 :: u25 :: u26 :: u27 :: u28 :: u29 :: u30 :: u31 :: u32 :: u33 :: u34 :: u35 :: u36 :: u37 :: u38 :: u39 :: u40 :: u41 :: u42 :: u43 :: u44 :: u45 :: u46 :: u47 :: u48 :: u49 :: u50 :: u51 :: u52 :: u53 :: u54 :: u55 :: u56 :: u57 :: u58 :: u59 :: u60 :: u61 :: u62 :: u63 :: u64 :: u65 :: u66 :: u67 :: u68 :: u69 :: u70 :: u71 :: u72 :: u73 :: u74 :: u75 :: u76 :: u77 :: u78 :: u79 :: u80 :: u81 :: u82 :: u83 :: u84 :: u85 :: u86 :: u87 :: u88 :: u89 :: u90 :: u91 :: u92 :: u93 :: u94 :: u95 :: u96 :: u97 :: u98 :: u99 :: u100 :: u101 :: u102 :: u103 :: u104 :: u105 :: u106 :: u107 :: u108 :: u109 :: u110 :: u111 :: u112 :: u113 :: u114 :: u115 :: u116 :: u117 :: u118 :: u119 :: u120 :: u121 :: u122 :: u123 :: u124 :: u125 :: u126 :: u127 :: u128 :: u129 :: u130 :: u131 :: u132 :: u133 :: u134 :: u135 :: u136 :: u137 :: u138 :: []) : List Value)), defers := [] } w := by
  have i1 : (i : Int) < (lx : Int) := by omega
  have i0 : (0 : Int) ≤ (i : Int) := by omega
  have hne : (sv != sv) = false := by simp
  replace h := hide h
  refine wp_region_noPanic ?_
  refine wp_region_any (by kernel_rfl) ?_
  change wpAny _ _ _ _ _ _ _ (World.drew w)
  refine wpAny_take (i := 0) (oi := { dst := some 116, op := Op.move (Operand.tmp 15), type := 23, pos := "law.go:202", after := #[], guard := none }) (v := ?_) rfl (by kernel_rfl) (by kernel_rfl) (by kernel_rfl) (fun _ _ _ h => h) (Or.inl ⟨by rfl, ?_⟩) ?_
  rotate_left
  · intro w'
    go_simp
    try with_reducible rfl
  try simp only [Act.put, List.setIfInBounds_toArray, List.set_cons_zero, List.set_cons_succ]
  refine wpAny_take (i := 1) (oi := { dst := some 117, op := Op.move (Operand.tmp 17), type := 3, pos := "law.go:202", after := #[], guard := none }) (v := ?_) rfl (by kernel_rfl) (by kernel_rfl) (by kernel_rfl) (fun _ _ _ h => h) (Or.inl ⟨by rfl, ?_⟩) ?_
  rotate_left
  · intro w'
    go_simp
    try with_reducible rfl
  try simp only [Act.put, List.setIfInBounds_toArray, List.set_cons_zero, List.set_cons_succ]
  refine wpAny_take (i := 2) (oi := { dst := some 118, op := Op.indexAddr 23 (Operand.tmp 116) (Operand.tmp 117), type := 0, pos := "law.go:202", after := #[{ on := 0, ground := Ground.data }, { on := 1, ground := Ground.data }], guard := none }) (v := ?_) rfl (by kernel_rfl) (by kernel_rfl) (by kernel_rfl) (fun _ _ _ h => h) (Or.inl ⟨by rfl, ?_⟩) ?_
  rotate_left
  · intro w'
    go_simp
    try with_reducible rfl
  try simp only [Act.put, List.setIfInBounds_toArray, List.set_cons_zero, List.set_cons_succ]
  refine wpAny_take (i := 4) (oi := { dst := some 120, op := Op.move (Operand.tmp 18), type := 5, pos := "law.go:202", after := #[], guard := none }) (v := ?_) rfl (by kernel_rfl) (by kernel_rfl) (by kernel_rfl) (fun _ _ _ h => h) (Or.inl ⟨by rfl, ?_⟩) ?_
  rotate_left
  · intro w'
    go_simp
    try with_reducible rfl
  try simp only [Act.put, List.setIfInBounds_toArray, List.set_cons_zero, List.set_cons_succ]
  refine wpAny_ready (rs := [3]) (by kernel_rfl) (by simp) ?_
  refine (AllReady.cons (o := { dst := some 119, op := Op.load 5 (Operand.tmp 118), type := 5, pos := "law.go:202", after := #[{ on := 2, ground := Ground.data }], guard := none }) rfl (fun K3 hK3 => ?_) AllReady.nil)
  go_simp
  refine hK3 _ _ ?_
  clear hK3 K3
  try simp only [Act.put, List.setIfInBounds_toArray, List.set_cons_zero, List.set_cons_succ]
  refine wpAny_take (i := 5) (oi := { dst := some 121, op := Op.binOp BinOp.neq 5 (Operand.tmp 119) (Operand.tmp 120) 5, type := 4, pos := "law.go:202", after := #[{ on := 3, ground := Ground.data }, { on := 4, ground := Ground.data }], guard := none }) (v := ?_) rfl (by kernel_rfl) (by kernel_rfl) (by kernel_rfl) (fun _ _ _ h => h) (Or.inl ⟨by rfl, ?_⟩) ?_
  rotate_left
  · intro w'
    go_simp
    try with_reducible rfl
  try simp only [Act.put, List.setIfInBounds_toArray, List.set_cons_zero, List.set_cons_succ]
  refine wpAny_take (i := 6) (oi := { dst := some 122, op := Op.move (Operand.tmp 121), type := 4, pos := "law.go:202", after := #[{ on := 5, ground := Ground.data }], guard := none }) (v := ?_) rfl (by kernel_rfl) (by kernel_rfl) (by kernel_rfl) (fun _ _ _ h => h) (Or.inl ⟨by rfl, ?_⟩) ?_
  rotate_left
  · intro w'
    go_simp
    try with_reducible rfl
  try simp only [Act.put, List.setIfInBounds_toArray, List.set_cons_zero, List.set_cons_succ]
  refine wpAny_take (i := 7) (oi := { dst := some 123, op := Op.move (Operand.tmp 17), type := 3, pos := "law.go:202", after := #[{ on := 6, ground := Ground.guard }], guard := some (6, true) }) (v := undef) rfl (by kernel_rfl) (by kernel_rfl) (by kernel_rfl) (fun _ _ _ h => h) (Or.inr ⟨by rfl, rfl⟩) ?_
  try simp only [Act.put, List.setIfInBounds_toArray, List.set_cons_zero, List.set_cons_succ]
  refine wpAny_take (i := 8) (oi := { dst := some 124, op := Op.move (Operand.tmp 12), type := 23, pos := "law.go:202", after := #[{ on := 6, ground := Ground.guard }], guard := some (6, true) }) (v := undef) rfl (by kernel_rfl) (by kernel_rfl) (by kernel_rfl) (fun _ _ _ h => h) (Or.inr ⟨by rfl, rfl⟩) ?_
  try simp only [Act.put, List.setIfInBounds_toArray, List.set_cons_zero, List.set_cons_succ]
  refine wpAny_take (i := 9) (oi := { dst := some 125, op := Op.call { callee := Callee.builtin Builtin.len, args := #[Operand.tmp 124], argTypes := #[23] }, type := 3, pos := "law.go:202", after := #[{ on := 8, ground := Ground.data }, { on := 6, ground := Ground.guard }], guard := some (6, true) }) (v := undef) rfl (by kernel_rfl) (by kernel_rfl) (by kernel_rfl) (fun _ _ _ h => h) (Or.inr ⟨by rfl, rfl⟩) ?_
  try simp only [Act.put, List.setIfInBounds_toArray, List.set_cons_zero, List.set_cons_succ]
  refine wpAny_take (i := 10) (oi := { dst := some 126, op := Op.binOp BinOp.geq 3 (Operand.tmp 123) (Operand.tmp 125) 3, type := 4, pos := "law.go:202", after := #[{ on := 7, ground := Ground.data }, { on := 9, ground := Ground.data }, { on := 6, ground := Ground.guard }], guard := some (6, true) }) (v := undef) rfl (by kernel_rfl) (by kernel_rfl) (by kernel_rfl) (fun _ _ _ h => h) (Or.inr ⟨by rfl, rfl⟩) ?_
  try simp only [Act.put, List.setIfInBounds_toArray, List.set_cons_zero, List.set_cons_succ]
  refine wpAny_take (i := 11) (oi := { dst := some 127, op := Op.move (Operand.tmp 126), type := 4, pos := "law.go:202", after := #[{ on := 10, ground := Ground.data }, { on := 6, ground := Ground.chain }, { on := 6, ground := Ground.guard }], guard := some (6, true) }) (v := undef) rfl (by kernel_rfl) (by kernel_rfl) (by kernel_rfl) (fun _ _ _ h => h) (Or.inr ⟨by rfl, rfl⟩) ?_
  try simp only [Act.put, List.setIfInBounds_toArray, List.set_cons_zero, List.set_cons_succ]
  refine wpAny_take (i := 12) (oi := { dst := some 128, op := Op.move (Operand.tmp 15), type := 23, pos := "law.go:202", after := #[{ on := 11, ground := Ground.guard }], guard := some (11, false) }) (v := undef) rfl (by kernel_rfl) (by kernel_rfl) (by kernel_rfl) (fun _ _ _ h => h) (Or.inr ⟨by rfl, rfl⟩) ?_
  try simp only [Act.put, List.setIfInBounds_toArray, List.set_cons_zero, List.set_cons_succ]
  refine wpAny_take (i := 13) (oi := { dst := some 129, op := Op.move (Operand.tmp 17), type := 3, pos := "law.go:202", after := #[{ on := 11, ground := Ground.guard }], guard := some (11, false) }) (v := undef) rfl (by kernel_rfl) (by kernel_rfl) (by kernel_rfl) (fun _ _ _ h => h) (Or.inr ⟨by rfl, rfl⟩) ?_
  try simp only [Act.put, List.setIfInBounds_toArray, List.set_cons_zero, List.set_cons_succ]
  refine wpAny_take (i := 14) (oi := { dst := some 130, op := Op.indexAddr 23 (Operand.tmp 128) (Operand.tmp 129), type := 0, pos := "law.go:202", after := #[{ on := 12, ground := Ground.data }, { on := 13, ground := Ground.data }, { on := 11, ground := Ground.guard }], guard := some (11, false) }) (v := undef) rfl (by kernel_rfl) (by kernel_rfl) (by kernel_rfl) (fun _ _ _ h => h) (Or.inr ⟨by rfl, rfl⟩) ?_
  try simp only [Act.put, List.setIfInBounds_toArray, List.set_cons_zero, List.set_cons_succ]
  refine wpAny_take (i := 15) (oi := { dst := some 131, op := Op.load 5 (Operand.tmp 130), type := 5, pos := "law.go:202", after := #[{ on := 14, ground := Ground.data }, { on := 11, ground := Ground.guard }], guard := some (11, false) }) (v := undef) rfl (by kernel_rfl) (by kernel_rfl) (by kernel_rfl) (fun _ _ _ h => h) (Or.inr ⟨by rfl, rfl⟩) ?_
  try simp only [Act.put, List.setIfInBounds_toArray, List.set_cons_zero, List.set_cons_succ]
  refine wpAny_take (i := 16) (oi := { dst := some 132, op := Op.move (Operand.tmp 12), type := 23, pos := "law.go:202", after := #[{ on := 11, ground := Ground.guard }], guard := some (11, false) }) (v := undef) rfl (by kernel_rfl) (by kernel_rfl) (by kernel_rfl) (fun _ _ _ h => h) (Or.inr ⟨by rfl, rfl⟩) ?_
  try simp only [Act.put, List.setIfInBounds_toArray, List.set_cons_zero, List.set_cons_succ]
  refine wpAny_take (i := 17) (oi := { dst := some 133, op := Op.move (Operand.tmp 17), type := 3, pos := "law.go:202", after := #[{ on := 11, ground := Ground.guard }], guard := some (11, false) }) (v := undef) rfl (by kernel_rfl) (by kernel_rfl) (by kernel_rfl) (fun _ _ _ h => h) (Or.inr ⟨by rfl, rfl⟩) ?_
  try simp only [Act.put, List.setIfInBounds_toArray, List.set_cons_zero, List.set_cons_succ]
  refine wpAny_take (i := 18) (oi := { dst := some 134, op := Op.indexAddr 23 (Operand.tmp 132) (Operand.tmp 133), type := 0, pos := "law.go:202", after := #[{ on := 16, ground := Ground.data }, { on := 17, ground := Ground.data }, { on := 11, ground := Ground.guard }], guard := some (11, false) }) (v := undef) rfl (by kernel_rfl) (by kernel_rfl) (by kernel_rfl) (fun _ _ _ h => h) (Or.inr ⟨by rfl, rfl⟩) ?_
  try simp only [Act.put, List.setIfInBounds_toArray, List.set_cons_zero, List.set_cons_succ]
  refine wpAny_take (i := 19) (oi := { dst := some 135, op := Op.load 5 (Operand.tmp 134), type := 5, pos := "law.go:202", after := #[{ on := 18, ground := Ground.data }, { on := 11, ground := Ground.guard }], guard := some (11, false) }) (v := undef) rfl (by kernel_rfl) (by kernel_rfl) (by kernel_rfl) (fun _ _ _ h => h) (Or.inr ⟨by rfl, rfl⟩) ?_
  try simp only [Act.put, List.setIfInBounds_toArray, List.set_cons_zero, List.set_cons_succ]
  refine wpAny_take (i := 20) (oi := { dst := some 136, op := Op.binOp BinOp.neq 5 (Operand.tmp 131) (Operand.tmp 135) 5, type := 4, pos := "law.go:202", after := #[{ on := 15, ground := Ground.data }, { on := 19, ground := Ground.data }, { on := 11, ground := Ground.guard }], guard := some (11, false) }) (v := undef) rfl (by kernel_rfl) (by kernel_rfl) (by kernel_rfl) (fun _ _ _ h => h) (Or.inr ⟨by rfl, rfl⟩) ?_
  try simp only [Act.put, List.setIfInBounds_toArray, List.set_cons_zero, List.set_cons_succ]
  refine wpAny_take (i := 21) (oi := { dst := some 137, op := Op.pick (Operand.tmp 127) (Operand.const (Value.bool true)) (Operand.tmp 136), type := 4, pos := "law.go:202", after := #[{ on := 11, ground := Ground.data }, { on := 20, ground := Ground.data }, { on := 6, ground := Ground.guard }], guard := some (6, true) }) (v := undef) rfl (by kernel_rfl) (by kernel_rfl) (by kernel_rfl) (fun _ _ _ h => h) (Or.inr ⟨by rfl, rfl⟩) ?_
  try simp only [Act.put, List.setIfInBounds_toArray, List.set_cons_zero, List.set_cons_succ]
  refine wpAny_take (i := 22) (oi := { dst := some 138, op := Op.pick (Operand.tmp 122) (Operand.tmp 137) (Operand.const (Value.bool false)), type := 4, pos := "law.go:202", after := #[{ on := 6, ground := Ground.data }, { on := 21, ground := Ground.data }], guard := none }) (v := ?_) rfl (by kernel_rfl) (by kernel_rfl) (by kernel_rfl) (fun _ _ _ h => h) (Or.inl ⟨by rfl, ?_⟩) ?_
  rotate_left
  · intro w'
    go_simp
    try with_reducible rfl
  try simp only [Act.put, List.setIfInBounds_toArray, List.set_cons_zero, List.set_cons_succ]
  refine wpAny_done (by kernel_rfl) ?_ _
  refine NoPanic.normal ?_
  exact h.out
set_option maxHeartbeats 4000000 in
set_option maxRecDepth 100000 in
theorem reg4_23b (w : World) (bx ox lx cx bn on ln cn i : Nat) (sv xv : Int) (hi : i < lx) (hlx : lx ≤ 1000000) (hin : i < ln) (hln : ln ≤ 1000000) (hxs : xv ≠ sv) (c1 : w.cell? ⟨bx, ox + i, none⟩ = some (.int .u8 xv)) (c2 : w.cell? ⟨bn, on + i, none⟩ = some (.int .u8 xv))
    (u0 u1 u2 u3 u4 u5 u6 u7 u8 u9 u10 u11 u13 u14 u16 u19 u20 u21 u22 u23 u24 u25 u26 u27 u28 u29 u30 u31 u32 u33 u34 u35 u36 u37 u38 u39 u40 u41 u42 u43 u44 u45 u46 u47 u48 u49 u50 u51 u52 u53 u54 u55 u56 u57 u58 u59 u60 u61 u62 u63 u64 u65 u66 u67 u68 u69 u70 u71 u72 u73 u74 u75 u76 u77 u78 u79 u80 u81 u82 u83 u84 u85 u86 u87 u88 u89 u90 u91 u92 u93 u94 u95 u96 u97 u98 u99 u100 u101 u102 u103 u104 u105 u106 u107 u108 u109 u110 u111 u112 u113 u114 u115 u116 u117 u118 u119 u120 u121 u122 u123 u124 u125 u126 u127 u128 u129 u130 u131 u132 u133 u134 u135 u136 u137 u138 : Value) (Q : Exit → Act → World → Prop)
    (h : Q .normal { tmps := (List.toArray ((u0 :: u1 :: u2 :: u3 :: u4 :: u5 :: u6 :: u7 :: u8 :: u9 :: u10 :: u11 :: .slice (some ⟨bn, on, none⟩) ln cn :: u13 :: u14 :: .slice (some ⟨bx, ox, none⟩) lx cx :: u16 :: .int .i64 (i : Int) :: .int .u8 sv :: u19 :: u20 :: u21 :: u22 :: u23 :: u24 :: u25 :: u26 :: u27 :: u28 :: u29 :: u30 :: u31 :: u32 :: u33 :: u34 :: u35 :: u36 :: u37 :: u38 :: u39 :: u40 :: u41 :: u42 :: u43 :: u44 :: u45 :: u46 :: u47 :: u48 :: u49 :: u50 :: u51 :: u52 :: u53 :: u54 :: u55 :: u56 :: u57 :: u58 :: u59 :: u60 :: u61 :: u62 :: u63 :: u64 :: u65 :: u66 :: u67 :: u68 :: u69 :: u70 :: u71 :: u72 :: u73 :: u74 :: u75 :: u76 :: u77 :: u78 :: u79 :: u80 :: u81 :: u82 :: u83 :: u84 :: u85 :: u86 :: u87 :: u88 :: u89 :: u90 :: u91 :: u92 :: u93 :: u94 :: u95 :: u96 :: u97 :: u98 :: u99 :: u100 :: u101 :: u102 :: u103 :: u104 :: u105 :: u106 :: u107 :: u108 :: u109 :: u110 :: u111 :: u112 :: u113 :: u114 :: u115 :: .slice (some ⟨bx, ox, none⟩) lx cx :: .int .i64 (i : Int) :: .pointer (some ⟨bx, ox + i, none⟩) :: .int .u8 xv :: .int .u8 sv :: .bool true :: .bool true :: .int .i64 (i : Int) :: .slice (some ⟨bn, on, none⟩) ln cn :: .int .i64 (ln : Int) :: .bool false :: .bool false :: .slice (some ⟨bx, ox, none⟩) lx cx :: .int .i64 (i : Int) :: .pointer (some ⟨bx, ox + i, none⟩) :: .int .u8 xv :: .slice (some ⟨bn, on, none⟩) ln cn :: .int .i64 (i : Int) :: .pointer (some ⟨bn, on + i, none⟩) :: .int .u8 xv :: .bool false :: .bool false :: .bool false :: []) : List Value)), defers := [] } w.drew) :
    (Code.region 23 #[{ dst := some 116, op := Op.move (Operand.tmp 15), type := 23, pos := "law.go:202", after := #[], guard := none }, { dst := some 117, op := Op.move (Operand.tmp 17), type := 3, pos := "law.go:202", after := #[], guard := none }, { dst := some 118, op := Op.indexAddr 23 (Operand.tmp 116) (Operand.tmp 117), type := 0, pos := "law.go:202", after := #[{ on := 0, ground := Ground.data }, { on := 1, ground := Ground.data }], guard := none }, { dst := some 119, op := Op.load 5 (Operand.tmp 118), type := 5, pos := "law.go:202", after := #[{ on := 2, ground := Ground.data }], guard := none }, { dst := some 120, op := Op.move (Operand.tmp 18), type := 5, pos := "law.go:202", after := #[], guard := none }, { dst := some 121, op := Op.binOp BinOp.neq 5 (Operand.tmp 119) (Operand.tmp 120) 5, type := 4, pos := "law.go:202", after := #[{ on := 3, ground := Ground.data }, { on := 4, ground := Ground.data }], guard := none }, { dst := some 122, op := Op.move (Operand.tmp 121), type := 4, pos := "law.go:202", after := #[{ on := 5, ground := Ground.data }], guard := none }, { dst := some 123, op := Op.move (Operand.tmp 17), type := 3, pos := "law.go:202", after := #[{ on := 6, ground := Ground.guard }], guard := some (6, true) }, { dst := some 124, op := Op.move (Operand.tmp 12), type := 23, pos := "law.go:202", after := #[{ on := 6, ground := Ground.guard }], guard := some (6, true) }, { dst := some 125, op := Op.call { callee := Callee.builtin Builtin.len, args := #[Operand.tmp 124], argTypes := #[23] }, type := 3, pos := "law.go:202", after := #[{ on := 8, ground := Ground.data }, { on := 6, ground := Ground.guard }], guard := some (6, true) }, { dst := some 126, op := Op.binOp BinOp.geq 3 (Operand.tmp 123) (Operand.tmp 125) 3, type := 4, pos := "law.go:202", after := #[{ on := 7, ground := Ground.data }, { on := 9, ground := Ground.data }, { on := 6, ground := Ground.guard }], guard := some (6, true) }, { dst := some 127, op := Op.move (Operand.tmp 126), type := 4, pos := "law.go:202", after := #[{ on := 10, ground := Ground.data }, { on := 6, ground := Ground.chain }, { on := 6, ground := Ground.guard }], guard := some (6, true) }, { dst := some 128, op := Op.move (Operand.tmp 15), type := 23, pos := "law.go:202", after := #[{ on := 11, ground := Ground.guard }], guard := some (11, false) }, { dst := some 129, op := Op.move (Operand.tmp 17), type := 3, pos := "law.go:202", after := #[{ on := 11, ground := Ground.guard }], guard := some (11, false) }, { dst := some 130, op := Op.indexAddr 23 (Operand.tmp 128) (Operand.tmp 129), type := 0, pos := "law.go:202", after := #[{ on := 12, ground := Ground.data }, { on := 13, ground := Ground.data }, { on := 11, ground := Ground.guard }], guard := some (11, false) }, { dst := some 131, op := Op.load 5 (Operand.tmp 130), type := 5, pos := "law.go:202", after := #[{ on := 14, ground := Ground.data }, { on := 11, ground := Ground.guard }], guard := some (11, false) }, { dst := some 132, op := Op.move (Operand.tmp 12), type := 23, pos := "law.go:202", after := #[{ on := 11, ground := Ground.guard }], guard := some (11, false) }, { dst := some 133, op := Op.move (Operand.tmp 17), type := 3, pos := "law.go:202", after := #[{ on := 11, ground := Ground.guard }], guard := some (11, false) }, { dst := some 134, op := Op.indexAddr 23 (Operand.tmp 132) (Operand.tmp 133), type := 0, pos := "law.go:202", after := #[{ on := 16, ground := Ground.data }, { on := 17, ground := Ground.data }, { on := 11, ground := Ground.guard }], guard := some (11, false) }, { dst := some 135, op := Op.load 5 (Operand.tmp 134), type := 5, pos := "law.go:202", after := #[{ on := 18, ground := Ground.data }, { on := 11, ground := Ground.guard }], guard := some (11, false) }, { dst := some 136, op := Op.binOp BinOp.neq 5 (Operand.tmp 131) (Operand.tmp 135) 5, type := 4, pos := "law.go:202", after := #[{ on := 15, ground := Ground.data }, { on := 19, ground := Ground.data }, { on := 11, ground := Ground.guard }], guard := some (11, false) }, { dst := some 137, op := Op.pick (Operand.tmp 127) (Operand.const (Value.bool true)) (Operand.tmp 136), type := 4, pos := "law.go:202", after := #[{ on := 11, ground := Ground.data }, { on := 20, ground := Ground.data }, { on := 6, ground := Ground.guard }], guard := some (6, true) }, { dst := some 138, op := Op.pick (Operand.tmp 122) (Operand.tmp 137) (Operand.const (Value.bool false)), type := 4, pos := "law.go:202", after := #[{ on := 6, ground := Ground.data }, { on := 21, ground := Ground.data }], guard := none }] true).wp Try.prog Q { tmps := (List.toArray ((u0 :: u1 :: u2 :: u3 :: u4 :: u5 :: u6 :: u7 :: u8 :: u9 :: u10 :: u11 :: .slice (some ⟨bn, on, none⟩) ln cn :: u13 :: u14 :: .slice (some ⟨bx, ox, none⟩) lx cx :: u16 :: .int .i64 (i : Int) :: .int .u8 sv :: u19 :: u20 :: u21 :: u22 :: u23 :: u24 :: u25 :: u26 :: u27 :: u28 :: u29 :: u30 :: u31 :: u32 :: u33 :: u34 :: u35 :: u36 :: u37 :: u38 :: u39 :: u40 :: u41 :: u42 :: u43 :: u44 :: u45 :: u46 :: u47 :: u48 :: u49 :: u50 :: u51 :: u52 :: u53 :: u54 :: u55 :: u56 :: u57 :: u58 :: u59 :: u60 :: u61 :: u62 :: u63 :: u64 :: u65 :: u66 :: u67 :: u68 :: u69 :: u70 :: u71 :: u72 :: u73 :: u74 :: u75 :: u76 :: u77 :: u78 :: u79 :: u80 :: u81 :: u82 :: u83 :: u84 :: u85 :: u86 :: u87 :: u88 :: u89 :: u90 :: u91 :: u92 :: u93 :: u94 :: u95 :: u96 :: u97 :: u98 :: u99 :: u100 :: u101 :: u102 :: u103 :: u104 :: u105 :: u106 :: u107 :: u108 :: u109 :: u110 :: u111 :: u112 :: u113 :: u114 :: u115 :: u116 :: u117 :: u118 :: u119 :: u120 :: u121 :: u122 :: u123 :: u124 :: u125 :: u126 :: u127 :: u128 :: u129 :: u130 :: u131 :: u132 :: u133 :: u134 :: u135 :: u136 :: u137 :: u138 :: []) : List Value)), defers := [] } w := by
  have i1 : (i : Int) < (lx : Int) := by omega
  have i2 : (i : Int) < (ln : Int) := by omega
  have i3 : ¬ ((ln : Int) ≤ (i : Int)) := by omega
  have i0 : (0 : Int) ≤ (i : Int) := by omega
  have hne : (xv != sv) = true := by simpa using hxs
  have hnx : (xv != xv) = false := by simp
  have hx1 : ¬ (xv = sv) := hxs
  replace h := hide h
  refine wp_region_noPanic ?_
  refine wp_region_any (by kernel_rfl) ?_
  change wpAny _ _ _ _ _ _ _ (World.drew w)
  refine wpAny_take (i := 0) (oi := { dst := some 116, op := Op.move (Operand.tmp 15), type := 23, pos := "law.go:202", after := #[], guard := none }) (v := ?_) rfl (by kernel_rfl) (by kernel_rfl) (by kernel_rfl) (fun _ _ _ h => h) (Or.inl ⟨by rfl, ?_⟩) ?_
  rotate_left
  · intro w'
    go_simp
    try with_reducible rfl
  try simp only [Act.put, List.setIfInBounds_toArray, List.set_cons_zero, List.set_cons_succ]
  refine wpAny_take (i := 1) (oi := { dst := some 117, op := Op.move (Operand.tmp 17), type := 3, pos := "law.go:202", after := #[], guard := none }) (v := ?_) rfl (by kernel_rfl) (by kernel_rfl) (by kernel_rfl) (fun _ _ _ h => h) (Or.inl ⟨by rfl, ?_⟩) ?_
  rotate_left
  · intro w'
    go_simp
    try with_reducible rfl
  try simp only [Act.put, List.setIfInBounds_toArray, List.set_cons_zero, List.set_cons_succ]
  refine wpAny_take (i := 2) (oi := { dst := some 118, op := Op.indexAddr 23 (Operand.tmp 116) (Operand.tmp 117), type := 0, pos := "law.go:202", after := #[{ on := 0, ground := Ground.data }, { on := 1, ground := Ground.data }], guard := none }) (v := ?_) rfl (by kernel_rfl) (by kernel_rfl) (by kernel_rfl) (fun _ _ _ h => h) (Or.inl ⟨by rfl, ?_⟩) ?_
  rotate_left
  · intro w'
    go_simp
    try with_reducible rfl
  try simp only [Act.put, List.setIfInBounds_toArray, List.set_cons_zero, List.set_cons_succ]
  refine wpAny_take (i := 4) (oi := { dst := some 120, op := Op.move (Operand.tmp 18), type := 5, pos := "law.go:202", after := #[], guard := none }) (v := ?_) rfl (by kernel_rfl) (by kernel_rfl) (by kernel_rfl) (fun _ _ _ h => h) (Or.inl ⟨by rfl, ?_⟩) ?_
  rotate_left
  · intro w'
    go_simp
    try with_reducible rfl
  try simp only [Act.put, List.setIfInBounds_toArray, List.set_cons_zero, List.set_cons_succ]
  refine wpAny_ready (rs := [3]) (by kernel_rfl) (by simp) ?_
  refine (AllReady.cons (o := { dst := some 119, op := Op.load 5 (Operand.tmp 118), type := 5, pos := "law.go:202", after := #[{ on := 2, ground := Ground.data }], guard := none }) rfl (fun K3 hK3 => ?_) AllReady.nil)
  go_simp
  refine hK3 _ _ ?_
  clear hK3 K3
  try simp only [Act.put, List.setIfInBounds_toArray, List.set_cons_zero, List.set_cons_succ]
  refine wpAny_take (i := 5) (oi := { dst := some 121, op := Op.binOp BinOp.neq 5 (Operand.tmp 119) (Operand.tmp 120) 5, type := 4, pos := "law.go:202", after := #[{ on := 3, ground := Ground.data }, { on := 4, ground := Ground.data }], guard := none }) (v := ?_) rfl (by kernel_rfl) (by kernel_rfl) (by kernel_rfl) (fun _ _ _ h => h) (Or.inl ⟨by rfl, ?_⟩) ?_
  rotate_left
  · intro w'
    go_simp
    try with_reducible rfl
  try simp only [Act.put, List.setIfInBounds_toArray, List.set_cons_zero, List.set_cons_succ]
  refine wpAny_take (i := 6) (oi := { dst := some 122, op := Op.move (Operand.tmp 121), type := 4, pos := "law.go:202", after := #[{ on := 5, ground := Ground.data }], guard := none }) (v := ?_) rfl (by kernel_rfl) (by kernel_rfl) (by kernel_rfl) (fun _ _ _ h => h) (Or.inl ⟨by rfl, ?_⟩) ?_
  rotate_left
  · intro w'
    go_simp
    try with_reducible rfl
  try simp only [Act.put, List.setIfInBounds_toArray, List.set_cons_zero, List.set_cons_succ]
  refine wpAny_take (i := 7) (oi := { dst := some 123, op := Op.move (Operand.tmp 17), type := 3, pos := "law.go:202", after := #[{ on := 6, ground := Ground.guard }], guard := some (6, true) }) (v := ?_) rfl (by kernel_rfl) (by kernel_rfl) (by kernel_rfl) (fun _ _ _ h => h) (Or.inl ⟨by rfl, ?_⟩) ?_
  rotate_left
  · intro w'
    go_simp
    try with_reducible rfl
  try simp only [Act.put, List.setIfInBounds_toArray, List.set_cons_zero, List.set_cons_succ]
  refine wpAny_take (i := 8) (oi := { dst := some 124, op := Op.move (Operand.tmp 12), type := 23, pos := "law.go:202", after := #[{ on := 6, ground := Ground.guard }], guard := some (6, true) }) (v := ?_) rfl (by kernel_rfl) (by kernel_rfl) (by kernel_rfl) (fun _ _ _ h => h) (Or.inl ⟨by rfl, ?_⟩) ?_
  rotate_left
  · intro w'
    go_simp
    try with_reducible rfl
  try simp only [Act.put, List.setIfInBounds_toArray, List.set_cons_zero, List.set_cons_succ]
  refine wpAny_take (i := 9) (oi := { dst := some 125, op := Op.call { callee := Callee.builtin Builtin.len, args := #[Operand.tmp 124], argTypes := #[23] }, type := 3, pos := "law.go:202", after := #[{ on := 8, ground := Ground.data }, { on := 6, ground := Ground.guard }], guard := some (6, true) }) (v := ?_) rfl (by kernel_rfl) (by kernel_rfl) (by kernel_rfl) (fun _ _ _ h => h) (Or.inl ⟨by rfl, ?_⟩) ?_
  rotate_left
  · intro w'
    go_simp
    try with_reducible rfl
  try simp only [Act.put, List.setIfInBounds_toArray, List.set_cons_zero, List.set_cons_succ]
  refine wpAny_take (i := 10) (oi := { dst := some 126, op := Op.binOp BinOp.geq 3 (Operand.tmp 123) (Operand.tmp 125) 3, type := 4, pos := "law.go:202", after := #[{ on := 7, ground := Ground.data }, { on := 9, ground := Ground.data }, { on := 6, ground := Ground.guard }], guard := some (6, true) }) (v := ?_) rfl (by kernel_rfl) (by kernel_rfl) (by kernel_rfl) (fun _ _ _ h => h) (Or.inl ⟨by rfl, ?_⟩) ?_
  rotate_left
  · intro w'
    go_simp
    try with_reducible rfl
  try simp only [Act.put, List.setIfInBounds_toArray, List.set_cons_zero, List.set_cons_succ]
  refine wpAny_take (i := 11) (oi := { dst := some 127, op := Op.move (Operand.tmp 126), type := 4, pos := "law.go:202", after := #[{ on := 10, ground := Ground.data }, { on := 6, ground := Ground.chain }, { on := 6, ground := Ground.guard }], guard := some (6, true) }) (v := ?_) rfl (by kernel_rfl) (by kernel_rfl) (by kernel_rfl) (fun _ _ _ h => h) (Or.inl ⟨by rfl, ?_⟩) ?_
  rotate_left
  · intro w'
    go_simp
    try with_reducible rfl
  try simp only [Act.put, List.setIfInBounds_toArray, List.set_cons_zero, List.set_cons_succ]
  refine wpAny_take (i := 12) (oi := { dst := some 128, op := Op.move (Operand.tmp 15), type := 23, pos := "law.go:202", after := #[{ on := 11, ground := Ground.guard }], guard := some (11, false) }) (v := ?_) rfl (by kernel_rfl) (by kernel_rfl) (by kernel_rfl) (fun _ _ _ h => h) (Or.inl ⟨by rfl, ?_⟩) ?_
  rotate_left
  · intro w'
    go_simp
    try with_reducible rfl
  try simp only [Act.put, List.setIfInBounds_toArray, List.set_cons_zero, List.set_cons_succ]
  refine wpAny_take (i := 13) (oi := { dst := some 129, op := Op.move (Operand.tmp 17), type := 3, pos := "law.go:202", after := #[{ on := 11, ground := Ground.guard }], guard := some (11, false) }) (v := ?_) rfl (by kernel_rfl) (by kernel_rfl) (by kernel_rfl) (fun _ _ _ h => h) (Or.inl ⟨by rfl, ?_⟩) ?_
  rotate_left
  · intro w'
    go_simp
    try with_reducible rfl
  try simp only [Act.put, List.setIfInBounds_toArray, List.set_cons_zero, List.set_cons_succ]
  refine wpAny_take (i := 14) (oi := { dst := some 130, op := Op.indexAddr 23 (Operand.tmp 128) (Operand.tmp 129), type := 0, pos := "law.go:202", after := #[{ on := 12, ground := Ground.data }, { on := 13, ground := Ground.data }, { on := 11, ground := Ground.guard }], guard := some (11, false) }) (v := ?_) rfl (by kernel_rfl) (by kernel_rfl) (by kernel_rfl) (fun _ _ _ h => h) (Or.inl ⟨by rfl, ?_⟩) ?_
  rotate_left
  · intro w'
    go_simp
    try with_reducible rfl
  try simp only [Act.put, List.setIfInBounds_toArray, List.set_cons_zero, List.set_cons_succ]
  refine wpAny_take (i := 16) (oi := { dst := some 132, op := Op.move (Operand.tmp 12), type := 23, pos := "law.go:202", after := #[{ on := 11, ground := Ground.guard }], guard := some (11, false) }) (v := ?_) rfl (by kernel_rfl) (by kernel_rfl) (by kernel_rfl) (fun _ _ _ h => h) (Or.inl ⟨by rfl, ?_⟩) ?_
  rotate_left
  · intro w'
    go_simp
    try with_reducible rfl
  try simp only [Act.put, List.setIfInBounds_toArray, List.set_cons_zero, List.set_cons_succ]
  refine wpAny_take (i := 17) (oi := { dst := some 133, op := Op.move (Operand.tmp 17), type := 3, pos := "law.go:202", after := #[{ on := 11, ground := Ground.guard }], guard := some (11, false) }) (v := ?_) rfl (by kernel_rfl) (by kernel_rfl) (by kernel_rfl) (fun _ _ _ h => h) (Or.inl ⟨by rfl, ?_⟩) ?_
  rotate_left
  · intro w'
    go_simp
    try with_reducible rfl
  try simp only [Act.put, List.setIfInBounds_toArray, List.set_cons_zero, List.set_cons_succ]
  refine wpAny_take (i := 18) (oi := { dst := some 134, op := Op.indexAddr 23 (Operand.tmp 132) (Operand.tmp 133), type := 0, pos := "law.go:202", after := #[{ on := 16, ground := Ground.data }, { on := 17, ground := Ground.data }, { on := 11, ground := Ground.guard }], guard := some (11, false) }) (v := ?_) rfl (by kernel_rfl) (by kernel_rfl) (by kernel_rfl) (fun _ _ _ h => h) (Or.inl ⟨by rfl, ?_⟩) ?_
  rotate_left
  · intro w'
    go_simp
    try with_reducible rfl
  try simp only [Act.put, List.setIfInBounds_toArray, List.set_cons_zero, List.set_cons_succ]
  refine wpAny_ready (rs := [15, 19]) (by kernel_rfl) (by simp) ?_
  refine (AllReady.cons (o := { dst := some 131, op := Op.load 5 (Operand.tmp 130), type := 5, pos := "law.go:202", after := #[{ on := 14, ground := Ground.data }, { on := 11, ground := Ground.guard }], guard := some (11, false) }) rfl (fun K15 hK15 => ?_) (AllReady.cons (o := { dst := some 135, op := Op.load 5 (Operand.tmp 134), type := 5, pos := "law.go:202", after := #[{ on := 18, ground := Ground.data }, { on := 11, ground := Ground.guard }], guard := some (11, false) }) rfl (fun K19 hK19 => ?_) AllReady.nil))
  · go_simp
    refine hK15 _ _ ?_
    clear hK15 K15
    try simp only [Act.put, List.setIfInBounds_toArray, List.set_cons_zero, List.set_cons_succ]
    refine wpAny_ready (rs := [19]) (by kernel_rfl) (by simp) ?_
    refine (AllReady.cons (o := { dst := some 135, op := Op.load 5 (Operand.tmp 134), type := 5, pos := "law.go:202", after := #[{ on := 18, ground := Ground.data }, { on := 11, ground := Ground.guard }], guard := some (11, false) }) rfl (fun K19 hK19 => ?_) AllReady.nil)
    go_simp
    refine hK19 _ _ ?_
    clear hK19 K19
    try simp only [Act.put, List.setIfInBounds_toArray, List.set_cons_zero, List.set_cons_succ]
    refine wpAny_take (i := 20) (oi := { dst := some 136, op := Op.binOp BinOp.neq 5 (Operand.tmp 131) (Operand.tmp 135) 5, type := 4, pos := "law.go:202", after := #[{ on := 15, ground := Ground.data }, { on := 19, ground := Ground.data }, { on := 11, ground := Ground.guard }], guard := some (11, false) }) (v := ?_) rfl (by kernel_rfl) (by kernel_rfl) (by kernel_rfl) (fun _ _ _ h => h) (Or.inl ⟨by rfl, ?_⟩) ?_
    rotate_left
    · intro w'
      go_simp
      try with_reducible rfl
    try simp only [Act.put, List.setIfInBounds_toArray, List.set_cons_zero, List.set_cons_succ]
    refine wpAny_take (i := 21) (oi := { dst := some 137, op := Op.pick (Operand.tmp 127) (Operand.const (Value.bool true)) (Operand.tmp 136), type := 4, pos := "law.go:202", after := #[{ on := 11, ground := Ground.data }, { on := 20, ground := Ground.data }, { on := 6, ground := Ground.guard }], guard := some (6, true) }) (v := ?_) rfl (by kernel_rfl) (by kernel_rfl) (by kernel_rfl) (fun _ _ _ h => h) (Or.inl ⟨by rfl, ?_⟩) ?_
    rotate_left
    · intro w'
      go_simp
      try with_reducible rfl
    try simp only [Act.put, List.setIfInBounds_toArray, List.set_cons_zero, List.set_cons_succ]
    refine wpAny_take (i := 22) (oi := { dst := some 138, op := Op.pick (Operand.tmp 122) (Operand.tmp 137) (Operand.const (Value.bool false)), type := 4, pos := "law.go:202", after := #[{ on := 6, ground := Ground.data }, { on := 21, ground := Ground.data }], guard := none }) (v := ?_) rfl (by kernel_rfl) (by kernel_rfl) (by kernel_rfl) (fun _ _ _ h => h) (Or.inl ⟨by rfl, ?_⟩) ?_
    rotate_left
    · intro w'
      go_simp
      try with_reducible rfl
    try simp only [Act.put, List.setIfInBounds_toArray, List.set_cons_zero, List.set_cons_succ]
    refine wpAny_done (by kernel_rfl) ?_ _
    refine NoPanic.normal ?_
    exact h.out
  · go_simp
    refine hK19 _ _ ?_
    clear hK19 K19
    try simp only [Act.put, List.setIfInBounds_toArray, List.set_cons_zero, List.set_cons_succ]
    refine wpAny_ready (rs := [15]) (by kernel_rfl) (by simp) ?_
    refine (AllReady.cons (o := { dst := some 131, op := Op.load 5 (Operand.tmp 130), type := 5, pos := "law.go:202", after := #[{ on := 14, ground := Ground.data }, { on := 11, ground := Ground.guard }], guard := some (11, false) }) rfl (fun K15 hK15 => ?_) AllReady.nil)
    go_simp
    refine hK15 _ _ ?_
    clear hK15 K15
    try simp only [Act.put, List.setIfInBounds_toArray, List.set_cons_zero, List.set_cons_succ]
    refine wpAny_take (i := 20) (oi := { dst := some 136, op := Op.binOp BinOp.neq 5 (Operand.tmp 131) (Operand.tmp 135) 5, type := 4, pos := "law.go:202", after := #[{ on := 15, ground := Ground.data }, { on := 19, ground := Ground.data }, { on := 11, ground := Ground.guard }], guard := some (11, false) }) (v := ?_) rfl (by kernel_rfl) (by kernel_rfl) (by kernel_rfl) (fun _ _ _ h => h) (Or.inl ⟨by rfl, ?_⟩) ?_
    rotate_left
    · intro w'
      go_simp
      try with_reducible rfl
    try simp only [Act.put, List.setIfInBounds_toArray, List.set_cons_zero, List.set_cons_succ]
    refine wpAny_take (i := 21) (oi := { dst := some 137, op := Op.pick (Operand.tmp 127) (Operand.const (Value.bool true)) (Operand.tmp 136), type := 4, pos := "law.go:202", after := #[{ on := 11, ground := Ground.data }, { on := 20, ground := Ground.data }, { on := 6, ground := Ground.guard }], guard := some (6, true) }) (v := ?_) rfl (by kernel_rfl) (by kernel_rfl) (by kernel_rfl) (fun _ _ _ h => h) (Or.inl ⟨by rfl, ?_⟩) ?_
    rotate_left
    · intro w'
      go_simp
      try with_reducible rfl
    try simp only [Act.put, List.setIfInBounds_toArray, List.set_cons_zero, List.set_cons_succ]
    refine wpAny_take (i := 22) (oi := { dst := some 138, op := Op.pick (Operand.tmp 122) (Operand.tmp 137) (Operand.const (Value.bool false)), type := 4, pos := "law.go:202", after := #[{ on := 6, ground := Ground.data }, { on := 21, ground := Ground.data }], guard := none }) (v := ?_) rfl (by kernel_rfl) (by kernel_rfl) (by kernel_rfl) (fun _ _ _ h => h) (Or.inl ⟨by rfl, ?_⟩) ?_
    rotate_left
    · intro w'
      go_simp
      try with_reducible rfl
    try simp only [Act.put, List.setIfInBounds_toArray, List.set_cons_zero, List.set_cons_succ]
    refine wpAny_done (by kernel_rfl) ?_ _
    refine NoPanic.normal ?_
    exact h.out
end Go.Proofs.Ytgbijkdfhkkieaa
