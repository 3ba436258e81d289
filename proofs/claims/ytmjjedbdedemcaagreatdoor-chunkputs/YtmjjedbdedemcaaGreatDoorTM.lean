/-
  chunk.unpack: its walk.
-/
import Derived.Test.YtmjjedbdedemcaaGreatDoorTL
namespace Go.Proofs.YtmjjedbdedemcaaGreatDoor
open Go.RowKit Go.Shelf
set_option linter.unusedVariables false
set_option linter.unusedSimpArgs false
attribute [local go_sem] Oper.semAt_some

theorem ownsS_mono {w : World} {base base' n : Nat} {v : Value} {xs : List Value} (h : w.ownsRow base 33 2 v n xs) (hb : base' ≤ base) : w.ownsRow base' 33 2 v n xs := by
  refine ⟨h.1, ?_⟩
  rcases h.2 with h1 | ⟨g, cap, cur, rfl, h2, h3⟩
  · exact .inl h1
  · exact .inr ⟨g, cap, cur, rfl, by omega, h3⟩
set_option maxRecDepth 100000 in
set_option maxHeartbeats 4000000 in
theorem unpack_in (n : Nat) (hn : 5 ≤ n) (w : World) (a : Option Addr) (len cap : Nat) (B : List Int) (m : Nat) (hm : m ≤ 4096) (H : Has w a len cap B) (hlen : len ≤ 1099511627776) (hT : Tabs w) :
    CallsIn Fence.wide n Tryz.prog 35 #[.slice a len cap, .int .i64 (m : Int)] w (UnpT B m w) := by
  have h1 : 1 ≤ n := by omega
  have hpos := hide hT.pos
  replace hT := hide hT
  replace H := hide H
  refine callsIn_of_wp_marks Tryz.func35 rfl trivial ?_ rfl
  simp only [Tryz.ntmps35, List.size_toArray, List.length_cons, List.length_nil, Nat.reduceAdd, Nat.reduceSub, Array.replicate_succ, Array.replicate_zero, List.push_toArray, List.append_toArray, List.nil_append, List.cons_append]
  gi_wp2
  have B1 : Below w.heap.size w ((w.alloc (.cells #[.slice none 0 0] 22)).alloc (.cells #[.bool false] 4)) := ((Below.refl _ w).alloc (Nat.le_refl _) _).alloc (by simp) _
  refine ⟨trivial, (callsIn_wide.2 (newRd _ w.heap.size B1.size a len cap B (H.out.kept B1 (Nat.le_refl _)) hlen)).mono ?_⟩
  rintro e w2 ⟨q, v, rfl, b2, R2, hn2⟩
  gi_wp2_with (refine wpListIn_makeS rfl (.const (.int .i64 0)) (.tmp 12) rfl m _ rfl rfl rfl (by omega) ?_; intro w3 O3 b3 z3)
  obtain ⟨w4, hw4⟩ : ∃ w4, w3.alloc (.cells #[.slice (some ⟨w2.heap.size, 0, none⟩) 0 m] 22) = w4 := ⟨_, rfl⟩
  obtain ⟨b7, hb7⟩ : ∃ b7, w2.heap.size + 1 = b7 := ⟨_, rfl⟩
  have u7 := Boxed.new w3 22 (.slice (some ⟨w2.heap.size, 0, none⟩) 0 m)
  have O4 := O3.alloc (.cells #[.slice (some ⟨w2.heap.size, 0, none⟩) 0 m] 22)
  have K4 : Below w2.heap.size w2 (w3.alloc (.cells #[.slice (some ⟨w2.heap.size, 0, none⟩) 0 m] 22)) := b3.alloc b3.size _
  have z4 : (w3.alloc (.cells #[.slice (some ⟨w2.heap.size, 0, none⟩) 0 m] 22)).heap.size = w2.heap.size + 2 := by simp [z3]
  rw [hw4] at u7 O4 K4 z4 ⊢
  rw [z3] at u7
  rw [hb7] at u7 ⊢
  have hb7' : b7 = w2.heap.size + 1 := by omega
  clear hw4 O3 b3
  refine ⟨trivial, (samples_in (n - 1) q (m : Int) w4).mono ?_⟩
  rintro e w' ⟨rfl, rfl⟩
  gi_wp2
  rename_i v9 heq9
  cases heq9
  have s2 := b2.size
  simp only [World.size_alloc] at s2 hn2
  have hq0 := hn2 q (.inl rfl)
  have hqlt := R2.lt.2
  have b2' := B1.trans (b2.mono B1.size)
  have K5 : Below w4.heap.size w4 ((w4.alloc (.cells #[.pointer (some ⟨q, 0, none⟩)] 107)).alloc (.cells #[.int .i64 (m : Int)] 3)) := ((Below.refl _ w4).alloc (Nat.le_refl _) _).alloc (by simp) _
  have BB := (b2'.trans (K4.mono b2'.size)).trans (K5.mono (by omega))
  have R5 := (R2.below K4 (Nat.le_refl _)).below K5 (Nat.le_refl _)
  have T5 := hT.out.kept BB hpos.out
  have q1 : ((w4.alloc (.cells #[.pointer (some ⟨q, 0, none⟩)] 107)).alloc (.cells #[.int .i64 (m : Int)] 3)).cell? ⟨w4.heap.size + 1, 0, none⟩ = some (.int .i64 (m : Int)) := by
    have := (Boxed.new (w4.alloc (.cells #[.pointer (some ⟨q, 0, none⟩)] 107)) 3 (.int .i64 (m : Int))).cell
    rw [World.size_alloc] at this
    exact this
  have q2 : ((w4.alloc (.cells #[.pointer (some ⟨q, 0, none⟩)] 107)).alloc (.cells #[.int .i64 (m : Int)] 3)).heap[w4.heap.size]? = some (.cells #[.pointer (some ⟨q, 0, none⟩)] 107 (0, 0)) := (Boxed.new w4 107 (.pointer (some ⟨q, 0, none⟩))).alloc _
  have u4 : Boxed ((w4.alloc (.cells #[.pointer (some ⟨q, 0, none⟩)] 107)).alloc (.cells #[.int .i64 (m : Int)] 3)) w.heap.size 22 (.slice none 0 0) := by
    have := (Boxed.new w 22 (.slice none 0 0)).alloc (.cells #[.bool false] 4)
    exact (K5.block _ (by omega)).trans ((K4.block _ (by omega)).trans ((b2.block _ (by simp; omega)).trans this))
  have u5 : Boxed ((w4.alloc (.cells #[.pointer (some ⟨q, 0, none⟩)] 107)).alloc (.cells #[.int .i64 (m : Int)] 3)) (w.heap.size + 1) 4 (.bool false) := by
    have := Boxed.new (w.alloc (.cells #[.slice none 0 0] 22)) 4 (.bool false)
    rw [World.size_alloc] at this
    exact (K5.block _ (by omega)).trans ((K4.block _ (by omega)).trans ((b2.block _ (by simp)).trans this))
  have u6 : Boxed ((w4.alloc (.cells #[.pointer (some ⟨q, 0, none⟩)] 107)).alloc (.cells #[.int .i64 (m : Int)] 3)) b7 22 (.slice (some ⟨w2.heap.size, 0, none⟩) 0 m) := (u7.alloc _).alloc _
  have O5 : ((w4.alloc (.cells #[.pointer (some ⟨q, 0, none⟩)] 107)).alloc (.cells #[.int .i64 (m : Int)] 3)).ownsRow w.heap.size 33 2 (.slice (some ⟨w2.heap.size, 0, none⟩) 0 m) 0 (flat []) := ownsS_mono ((O4.alloc _).alloc _) (by omega)
  have z5 : ((w4.alloc (.cells #[.pointer (some ⟨q, 0, none⟩)] 107)).alloc (.cells #[.int .i64 (m : Int)] 3)).heap.size = w4.heap.size + 1 + 1 := by simp
  generalize ((w4.alloc (.cells #[.pointer (some ⟨q, 0, none⟩)] 107)).alloc (.cells #[.int .i64 (m : Int)] 3)) = w5 at *
  have hseq : SeqQ Fence.wide (n - 1) Tryz.prog 77 #[.pointer (some ⟨w4.heap.size + 1, 0, none⟩), .pointer (some ⟨w4.heap.size, 0, none⟩)] (fun x : Gv => #[.agg #[.int .i64 x.1.1, .int .u64 (x.1.2 : Int)], .int .i64 x.2]) (KpR w.heap.size) (FinT B w.heap.size q v m) (StpT (num B) B.length m) 4096 q w5 := fun l J Jx W hW hst hY hJ0 =>
    samples1_in (n - 1) (by omega) l (w4.heap.size + 1) w4.heap.size w.heap.size q m v B J Jx hm W hst hY (R5.below hW (Nat.le_refl _)) (T5.kept hW T5.pos) hpos.out ((hW.cell (p := ⟨w4.heap.size + 1, 0, none⟩) (by show w4.heap.size + 1 < _; omega)).trans q1) ((hW.block _ (by omega)).trans q2) (by omega) hJ0
  have hI0 : RI w q (w5.heap.size + 6) b7 [] w5 := ⟨fun x hx => by simp at hx, u4, u5, ⟨_, u6, O5, by simp [Value.ownBlock]; omega, by simp [Value.ownBlock]; omega⟩, BB⟩
  have hqb : w.heap.size + 1 < q ∧ q ≠ b7 := ⟨by omega, by omega⟩
  have hsb : w.heap.size + 1 < w5.heap.size + 6 ∧ w5.heap.size + 6 ≠ b7 := ⟨by omega, by omega⟩
  clear R2 hn2 B1 b2 b2' K4 K5 u4 u5 u6 u7 q1 q2 O4 O5
  refine wpIn_rangeQ rfl h1 (gf := 77) (lb := #[.pointer (some ⟨w4.heap.size + 1, 0, none⟩), .pointer (some ⟨w4.heap.size, 0, none⟩)]) rfl trivial (enters_of Tryz.func77 (by kernel_rfl) rfl) (by omega) hseq
    KpR.trans (KpR.put BB.size) (fun _ => rfl) (FinT.own B w.heap.size q v m _) (RI w q (w5.heap.size + 6) b7) (RIx w)
    (fun s A B row h hg hr => h.grown hg hqb hsb (fun r e => .inr (.inr ⟨by have := (hr r e).1; have := BB.size; omega, (hr r e).2⟩)))
    (RIx.own w _ BB.size)
    (fun s A B r h hg hr => h.grown hg hqb hsb (fun r' e => by cases e; rcases hr with h | h; exact .inl h; exact .inr (.inl h)))
    hI0
    (fun x W => { tmps := #[.slice a len cap, .int .i64 (m : Int), undef, undef, .pointer (some ⟨w.heap.size, 0, none⟩), .pointer (some ⟨w.heap.size + 1, 0, none⟩), .pointer (some ⟨q, 0, none⟩), .pointer (some ⟨b7, 0, none⟩), .pointer (some ⟨W.heap.size, 0, none⟩), .int .i64 x.2, .slice a len cap, .pointer (some ⟨q, 0, none⟩), .int .i64 (m : Int), .slice (some ⟨w2.heap.size, 0, none⟩) 0 m, .pointer (some ⟨q, 0, none⟩), .int .i64 (m : Int), .func (.func 77) #[] #[.pointer (some ⟨w4.heap.size + 1, 0, none⟩), .pointer (some ⟨w4.heap.size, 0, none⟩)], .agg #[.int .i64 x.1.1, .int .u64 (x.1.2 : Int)], .int .i64 x.2, undef, undef, undef, undef, undef, undef, undef, undef, undef], defers := [] })
    (fun x W => W.alloc (.cells #[.int .i64 x.1.1, .int .u64 (x.1.2 : Int)] 33)) (fun x W => World.grownBy_alloc W _ none) (fun x W hwW => ⟨(Below.refl _ W).alloc (Nat.le_trans BB.size hwW) _, fun k cs t fr hk _ => (Below.heap_alloc W _ k (Array.getElem?_eq_some_iff.1 hk).1).trans hk⟩) ?assign ?body ?done ?stop
  case assign =>
    intro l x W K hK
    have hzs := zeroSmp
    have key : ((#[17, 18] : Array Tmp).zip #[Value.agg #[.int .i64 x.1.1, .int .u64 (x.1.2 : Int)], .int .i64 x.2]).foldl (fun t (p, v) => t.setIfInBounds p v) #[.slice a len cap, .int .i64 (m : Int), undef, undef, .pointer (some ⟨w.heap.size, 0, none⟩), .pointer (some ⟨w.heap.size + 1, 0, none⟩), .pointer (some ⟨q, 0, none⟩), .pointer (some ⟨b7, 0, none⟩), undef, undef, .slice a len cap, .pointer (some ⟨q, 0, none⟩), .int .i64 (m : Int), .slice (some ⟨w2.heap.size, 0, none⟩) 0 m, .pointer (some ⟨q, 0, none⟩), .int .i64 (m : Int), .func (.func 77) #[] #[.pointer (some ⟨w4.heap.size + 1, 0, none⟩), .pointer (some ⟨w4.heap.size, 0, none⟩)], undef, undef, undef, undef, undef, undef, undef, undef, undef, undef, undef] = #[.slice a len cap, .int .i64 (m : Int), undef, undef, .pointer (some ⟨w.heap.size, 0, none⟩), .pointer (some ⟨w.heap.size + 1, 0, none⟩), .pointer (some ⟨q, 0, none⟩), .pointer (some ⟨b7, 0, none⟩), undef, undef, .slice a len cap, .pointer (some ⟨q, 0, none⟩), .int .i64 (m : Int), .slice (some ⟨w2.heap.size, 0, none⟩) 0 m, .pointer (some ⟨q, 0, none⟩), .int .i64 (m : Int), .func (.func 77) #[] #[.pointer (some ⟨w4.heap.size + 1, 0, none⟩), .pointer (some ⟨w4.heap.size, 0, none⟩)], Value.agg #[.int .i64 x.1.1, .int .u64 (x.1.2 : Int)], .int .i64 x.2, undef, undef, undef, undef, undef, undef, undef, undef, undef] := by simp
    dsimp only
    rw [key]
    clear key
    gi_wp2
    exact hK
  case body =>
    intro l pre x W0 W hi hsz hlen hkeep
    obtain ⟨⟨t, x⟩, er⟩ := x
    simp only
    have Y8 : Bx W W0.heap.size 33 #[.int .i64 t, .int .u64 (x : Int)] := hkeep _ _ _ _ (Bx.new W0 33 #[.int .i64 t, .int .u64 (x : Int)])
    obtain ⟨y0, y1⟩ := Y8.two
    obtain ⟨vl, hv, ho, h3, h4⟩ := hi.row
    clear hkeep Y8
    by_cases her : er = 0
    · subst her
      have v6 := hv.cell
      have hoA : Hid ((W.alloc (.cells #[.int .i64 t, .int .u64 (x : Int)] 33)).ownsRow w.heap.size 33 2 vl pre.length (flat (pre.map (·.1)))) := ho.alloc _
      obtain ⟨hc0, hc1⟩ := (Bx.new W 33 #[.int .i64 t, .int .u64 (x : Int)]).two
      replace hc0 := hide hc0
      replace hc1 := hide hc1
      have hbs : Hid (w.heap.size ≤ (W.alloc (.cells #[.int .i64 t, .int .u64 (x : Int)] 33)).heap.size) := by have := hi.bel.size; show _ ≤ _; simp; omega
      have MO := hide (fun (w1 : World) (g cap : Nat) => hi.more (w1 := w1) (g := g) (cap := cap) (t := t) (x := x) hv ho h3 h4 (by omega) hsz (by omega))
      obtain ⟨av, cv, hvs⟩ := slice_of_owns ho
      replace hi := hide hi
      replace hv := hide hv
      replace ho := hide ho
      replace h3 := hide h3
      replace h4 := hide h4
      replace hqb := hide hqb
      replace hsb := hide hsb
      clear hseq hI0 R5 T5 z3 z4 z5 hb7 hb7' BB hq0 hqlt s2
      subst hvs
      gi_wp2_with (refine wpListIn_lies3 rfl (.tmp 21) (.tmp 23) rfl w.heap.size _ pre.length _ rfl hoA.out W.heap.size t (x : Int) rfl hc0.out hc1.out (by omega) hbs.out ?_; intro g cap w1 o1 G1 hat; obtain ⟨A1, A2, A3, A4⟩ := MO.out _ _ _ o1 G1 hat; have a6 := A1.cell; have a7 := A1.frozen; replace A2 := hide A2; replace A3 := hide A3; replace A4 := hide A4; clear A1 MO o1 G1 hat v6)
      exact ⟨A2.out, A3.out, A4.out⟩
    · have j1 : (er != 0) = true := by rw [bne_iff_ne]; exact her
      have v4 := hi.b4.cell
      have f4 := hi.b4.frozen
      have X4 := hi.b4.set (.slice none 0 0)
      have X5 : Boxed (W.setCell ⟨w.heap.size, 0, none⟩ (.slice none 0 0)) (w.heap.size + 1) 4 (.bool false) := (Below.heap_setCell W _ _ _ (by show w.heap.size + 1 ≠ w.heap.size; omega)).trans hi.b5
      have v5 := X5.cell
      have f5 := X5.frozen
      have Y4 : Boxed ((W.setCell ⟨w.heap.size, 0, none⟩ (.slice none 0 0)).setCell ⟨w.heap.size + 1, 0, none⟩ (.bool false)) w.heap.size 22 (.slice none 0 0) := (Below.heap_setCell _ _ _ _ (by show w.heap.size ≠ w.heap.size + 1; omega)).trans X4
      have Y5 := X5.set (.bool false)
      have hk := hide ((KeepsOthers.setCell W ⟨w.heap.size, 0, none⟩ (.slice none 0 0)).trans (KeepsOthers.setCell _ ⟨w.heap.size + 1, 0, none⟩ (.bool false)))
      have hb := hide ((hi.bel.setCell (p := ⟨w.heap.size, 0, none⟩) (Nat.le_refl _) (.slice none 0 0)).setCell (p := ⟨w.heap.size + 1, 0, none⟩) (by show w.heap.size ≤ w.heap.size + 1; omega) (.bool false))
      replace Y4 := hide Y4
      replace Y5 := hide Y5
      replace hqb := hide hqb
      replace hsb := hide hsb
      clear hv ho h3 h4 hi X4 X5 hseq hI0 R5 T5 z3 z4 z5 hb7 hb7' BB hq0 hqlt s2
      gi_wp2
      exact ⟨hk.out, _, _, rfl, her, Y4.out, Y5.out, hb.out⟩
  case done =>
    intro Dd xs W hD hS hi hK
    rcases hS with ⟨ts, P, hA, rfl, hRd⟩ | ⟨x, hx, hx0⟩
    · obtain ⟨vl, hv, ho, h3, h4⟩ := hi.row
      obtain ⟨hts, hokl, -, hP8, -⟩ := rdS_ok m z0 (num B) B.length 0 ts P ok_z0 (by simp [z0]; omega) (by omega) hA
      rw [show (okP ts).map (·.1) = ts.map up by simp [okP, Function.comp_def], show (okP ts).length = m by simp [okP]; exact hts] at ho
      have hvb : Hid (∀ s ∈ ts.map up, s.2 < 18446744073709551616) := okL_vb ts z0 hokl
      obtain ⟨av, cv, hvs⟩ := slice_of_owns ho
      subst hvs
      have hupk : Hid (upk B m = if decide (8 * B.length < P + 8 ∧ rd (num B) B.length P (8 * B.length - P) = 0) = true then some ts else none) := by
        show upk B m = _
        unfold upk
        rw [hA]
        simp only [decide_eq_true_eq]
      have FL := hide (filled_any hRd.drew)
      have hqD : Hid (q < Dd) := by show q < Dd; omega
      have f1 : Hid (w.heap.size + 1 < Dd) := by show w.heap.size + 1 < Dd; omega
      replace hqb := hide hqb
      replace hsb := hide hsb
      replace hpos := hide hpos
      replace hi := hide hi
      clear hseq hI0 R5 T5 z3 z4 z5 hb7 hb7' BB hD hq0 hqlt s2
      have v6 : W.drew.cell? ⟨b7, 0, none⟩ = some (.slice av m cv) := hv.cell
      replace hv := hide hv
      replace ho := hide ho
      replace h3 := hide h3
      clear h4 hRd hA hokl hts
      gi_wp2
      refine wpIn_region_any (by kernel_rfl) ?_
      change wpAnyIn _ _ _ _ _ _ _ _ _ (World.drew W)
      refine wpAnyIn_ready (rs := [0, 1]) (by kernel_rfl) (by simp) ?_
      refine (AllReadyIn.cons (o := { dst := some 25, op := Op.load 22 (Operand.tmp 7), type := 22, pos := "chunk.go:141", after := #[], guard := none }) rfl (fun K0 hK0 => ?_) (AllReadyIn.cons (o := { dst := some 26, op := Op.move (Operand.tmp 6), type := 107, pos := "chunk.go:141", after := #[], guard := none }) rfl (fun K1 hK1 => ?_) AllReadyIn.nil))
      · go_simp
        refine hK0 _ _ ?_
        clear hK0 K0
        try simp only [Act.put, List.setIfInBounds_toArray, List.set_cons_zero, List.set_cons_succ]
        refine wpAnyIn_ready (rs := [1]) (by kernel_rfl) (by simp) ?_
        refine (AllReadyIn.cons (o := { dst := some 26, op := Op.move (Operand.tmp 6), type := 107, pos := "chunk.go:141", after := #[], guard := none }) rfl (fun K1 hK1 => ?_) AllReadyIn.nil)
        go_simp
        refine hK1 _ _ ?_
        clear hK1 K1
        try simp only [Act.put, List.setIfInBounds_toArray, List.set_cons_zero, List.set_cons_succ]
        refine wpAnyIn_ready (rs := [2]) (by kernel_rfl) (by simp) ?_
        refine (AllReadyIn.cons (o := { dst := some 27, op := Op.call { callee := Callee.value (Operand.func 59), args := #[Operand.tmp 26], argTypes := #[107] }, type := 4, pos := "chunk.go:141", after := #[{ on := 1, ground := Ground.data }], guard := none }) rfl (fun K2 hK2 => ?_) AllReadyIn.nil)
        go_simp
        refine ⟨trivial, (callsIn_wide.2 FL.out).mono ?_⟩
        rintro e w3 ⟨rfl, b3⟩
        have hi3 := hi.out.grown (B := w3) (grown_of_but (A := W) (B := w3) ⟨b3.os, b3.tape, b3.output, b3.size, b3.block⟩) hqb.out hsb.out (fun r e => .inl (by cases e; rfl))
        have v6 : w3.cell? ⟨b7, 0, none⟩ = some (.slice av m cv) := (Boxed.cell (show Boxed w3 b7 22 (.slice av m cv) from (b3.block _ hv.out.lt (fun e => hqb.out.2 e.symm)).trans hv.out))
        have O3 : Hid (w3.ownsRow w.heap.size 33 2 (.slice av m cv) m (flat (ts.map up))) := ho.out.kept (grown_of_but (A := W) (B := w3) ⟨b3.os, b3.tape, b3.output, b3.size, b3.block⟩) (.inr (fun e => h3.out (by rw [e])))
        have hK3 : Hid (w3.heap[Dd]? = some (.deferred (some []))) := (b3.block _ (Array.getElem?_eq_some_iff.1 hK).1 (fun e => by have := hqD.out; omega)).trans hK
        clear b3
        generalize decide (8 * B.length < P + 8 ∧ rd (num B) B.length P (8 * B.length - P) = 0) = bb at hupk ⊢
        refine hK2 _ _ ?_
        clear hK2 K2
        try simp only [Act.put, List.setIfInBounds_toArray, List.set_cons_zero, List.set_cons_succ]
        have X4 := hi3.b4.set (.slice av m cv)
        have X5 : Boxed (w3.setCell ⟨w.heap.size, 0, none⟩ (.slice av m cv)) (w.heap.size + 1) 4 (.bool false) := (Below.heap_setCell w3 _ _ _ (by show w.heap.size + 1 ≠ w.heap.size; omega)).trans hi3.b5
        have Y4 : Boxed ((w3.setCell ⟨w.heap.size, 0, none⟩ (.slice av m cv)).setCell ⟨w.heap.size + 1, 0, none⟩ (.bool bb)) w.heap.size 22 (.slice av m cv) := (Below.heap_setCell _ _ _ _ (by show w.heap.size ≠ w.heap.size + 1; omega)).trans X4
        have Y5 := X5.set (.bool bb)
        have Q1 := O3.out.kept (grownBy_setCell' w3 w.heap.size (.slice av m cv)) (.inr (hi3.b4.not_row (by decide) O3.out).symm)
        have Q2 := Q1.kept (grownBy_setCell' _ (w.heap.size + 1) (.bool bb)) (.inr (X5.not_row (by decide) Q1).symm)
        have hB := (hi3.bel.setCell (p := ⟨w.heap.size, 0, none⟩) (Nat.le_refl _) (.slice av m cv)).setCell (p := ⟨w.heap.size + 1, 0, none⟩) (by show w.heap.size ≤ w.heap.size + 1; omega) (.bool bb)
        have hKf : ((w3.setCell ⟨w.heap.size, 0, none⟩ (.slice av m cv)).setCell ⟨w.heap.size + 1, 0, none⟩ (.bool bb)).heap[Dd]? = some (.deferred (some [])) :=
          (Below.heap_setCell _ _ _ _ (by have := f1.out; show Dd ≠ w.heap.size + 1; omega)).trans ((Below.heap_setCell _ _ _ _ (by have := f1.out; show Dd ≠ w.heap.size; omega)).trans hK3.out)
        have o0 : ∀ o', (((w3.setCell ⟨w.heap.size, 0, none⟩ (.slice av m cv)).setCell ⟨w.heap.size + 1, 0, none⟩ (.bool bb)).putObj Dd o').cell? ⟨w.heap.size, 0, none⟩ = some (.slice av m cv) := fun o' => (Y4.kept (grownBy_putObj' _ Dd o') (by have := f1.out; simp; omega)).cell
        have o1 : ∀ o', (((w3.setCell ⟨w.heap.size, 0, none⟩ (.slice av m cv)).setCell ⟨w.heap.size + 1, 0, none⟩ (.bool bb)).putObj Dd o').cell? ⟨w.heap.size + 1, 0, none⟩ = some (.bool bb) := fun o' => (Y5.kept (grownBy_putObj' _ Dd o') (by have := f1.out; simp; omega)).cell
        have hfin := hide (fun o' => And.intro (ownsRow_putObj Q2 o' hKf rfl) (belowK_b (w := w) (Nat.le_refl _) _ Dd _ o' (by have := f1.out; omega) hKf rfl rfl))
        have v4 := hi3.b4.cell
        have f4 := hi3.b4.frozen
        have v5 := X5.cell
        have f5 := X5.frozen
        replace hB := hide hB
        clear X4 X5 Y4 Y5 Q1 Q2 hi3
        refine wpAnyIn_ready (rs := [3]) (by kernel_rfl) (by simp) ?_
        refine (AllReadyIn.cons (o := { dst := none, op := Op.store 22 (Operand.tmp 4) (Operand.tmp 25), type := 0, pos := "chunk.go:141", after := #[{ on := 0, ground := Ground.data }, { on := 2, ground := Ground.chain }, { on := 0, ground := Ground.phase }, { on := 1, ground := Ground.textOnly Departure.lateStores }, { on := 2, ground := Ground.textOnly Departure.lateStoresUnsure }], guard := none }) rfl (fun K3 hK3 => ?_) AllReadyIn.nil)
        go_simp
        refine hK3 _ _ ?_
        clear hK3 K3
        try simp only [Act.put, List.setIfInBounds_toArray, List.set_cons_zero, List.set_cons_succ]
        refine wpAnyIn_ready (rs := [4]) (by kernel_rfl) (by simp) ?_
        refine (AllReadyIn.cons (o := { dst := none, op := Op.store 4 (Operand.tmp 5) (Operand.tmp 27), type := 0, pos := "chunk.go:141", after := #[{ on := 2, ground := Ground.data }, { on := 3, ground := Ground.chain }, { on := 0, ground := Ground.phase }, { on := 1, ground := Ground.phase }, { on := 2, ground := Ground.phase }, { on := 3, ground := Ground.phase }], guard := none }) rfl (fun K4 hK4 => ?_) AllReadyIn.nil)
        go_simp
        refine hK4 _ _ ?_
        clear hK4 K4
        try simp only [Act.put, List.setIfInBounds_toArray, List.set_cons_zero, List.set_cons_succ]
        refine wpAnyIn_done (by kernel_rfl) ?_ _
        gi_wp2
        refine ⟨by simp, .inl ⟨_, _, rfl, run_takeDeferred hKf, ?_⟩⟩
        refine ⟨.tuple #[.slice av m cv, .bool bb], by simp [results, Tryz.f35, go_sem, o0, o1], ?_⟩
        obtain ⟨a2, c2, e2, hH⟩ := hasS_of_owns (hfin.out _).1 hvb.out
        cases e2
        refine ⟨?_, hB.out.trans (hfin.out _).2⟩
        cases bb with
        | true => exact .inl ⟨ts, _, _, by rw [hupk.out]; rfl, rfl, hH⟩
        | false => exact .inr ⟨by rw [hupk.out]; rfl, _, _, _, rfl⟩
      · go_simp
        refine hK1 _ _ ?_
        clear hK1 K1
        try simp only [Act.put, List.setIfInBounds_toArray, List.set_cons_zero, List.set_cons_succ]
        refine wpAnyIn_ready (rs := [0, 2]) (by kernel_rfl) (by simp) ?_
        refine (AllReadyIn.cons (o := { dst := some 25, op := Op.load 22 (Operand.tmp 7), type := 22, pos := "chunk.go:141", after := #[], guard := none }) rfl (fun K0 hK0 => ?_) (AllReadyIn.cons (o := { dst := some 27, op := Op.call { callee := Callee.value (Operand.func 59), args := #[Operand.tmp 26], argTypes := #[107] }, type := 4, pos := "chunk.go:141", after := #[{ on := 1, ground := Ground.data }], guard := none }) rfl (fun K2 hK2 => ?_) AllReadyIn.nil))
        · go_simp
          refine hK0 _ _ ?_
          clear hK0 K0
          try simp only [Act.put, List.setIfInBounds_toArray, List.set_cons_zero, List.set_cons_succ]
          refine wpAnyIn_ready (rs := [2]) (by kernel_rfl) (by simp) ?_
          refine (AllReadyIn.cons (o := { dst := some 27, op := Op.call { callee := Callee.value (Operand.func 59), args := #[Operand.tmp 26], argTypes := #[107] }, type := 4, pos := "chunk.go:141", after := #[{ on := 1, ground := Ground.data }], guard := none }) rfl (fun K2 hK2 => ?_) AllReadyIn.nil)
          go_simp
          refine ⟨trivial, (callsIn_wide.2 FL.out).mono ?_⟩
          rintro e w3 ⟨rfl, b3⟩
          have hi3 := hi.out.grown (B := w3) (grown_of_but (A := W) (B := w3) ⟨b3.os, b3.tape, b3.output, b3.size, b3.block⟩) hqb.out hsb.out (fun r e => .inl (by cases e; rfl))
          have v6 : w3.cell? ⟨b7, 0, none⟩ = some (.slice av m cv) := (Boxed.cell (show Boxed w3 b7 22 (.slice av m cv) from (b3.block _ hv.out.lt (fun e => hqb.out.2 e.symm)).trans hv.out))
          have O3 : Hid (w3.ownsRow w.heap.size 33 2 (.slice av m cv) m (flat (ts.map up))) := ho.out.kept (grown_of_but (A := W) (B := w3) ⟨b3.os, b3.tape, b3.output, b3.size, b3.block⟩) (.inr (fun e => h3.out (by rw [e])))
          have hK3 : Hid (w3.heap[Dd]? = some (.deferred (some []))) := (b3.block _ (Array.getElem?_eq_some_iff.1 hK).1 (fun e => by have := hqD.out; omega)).trans hK
          clear b3
          generalize decide (8 * B.length < P + 8 ∧ rd (num B) B.length P (8 * B.length - P) = 0) = bb at hupk ⊢
          refine hK2 _ _ ?_
          clear hK2 K2
          try simp only [Act.put, List.setIfInBounds_toArray, List.set_cons_zero, List.set_cons_succ]
          have X4 := hi3.b4.set (.slice av m cv)
          have X5 : Boxed (w3.setCell ⟨w.heap.size, 0, none⟩ (.slice av m cv)) (w.heap.size + 1) 4 (.bool false) := (Below.heap_setCell w3 _ _ _ (by show w.heap.size + 1 ≠ w.heap.size; omega)).trans hi3.b5
          have Y4 : Boxed ((w3.setCell ⟨w.heap.size, 0, none⟩ (.slice av m cv)).setCell ⟨w.heap.size + 1, 0, none⟩ (.bool bb)) w.heap.size 22 (.slice av m cv) := (Below.heap_setCell _ _ _ _ (by show w.heap.size ≠ w.heap.size + 1; omega)).trans X4
          have Y5 := X5.set (.bool bb)
          have Q1 := O3.out.kept (grownBy_setCell' w3 w.heap.size (.slice av m cv)) (.inr (hi3.b4.not_row (by decide) O3.out).symm)
          have Q2 := Q1.kept (grownBy_setCell' _ (w.heap.size + 1) (.bool bb)) (.inr (X5.not_row (by decide) Q1).symm)
          have hB := (hi3.bel.setCell (p := ⟨w.heap.size, 0, none⟩) (Nat.le_refl _) (.slice av m cv)).setCell (p := ⟨w.heap.size + 1, 0, none⟩) (by show w.heap.size ≤ w.heap.size + 1; omega) (.bool bb)
          have hKf : ((w3.setCell ⟨w.heap.size, 0, none⟩ (.slice av m cv)).setCell ⟨w.heap.size + 1, 0, none⟩ (.bool bb)).heap[Dd]? = some (.deferred (some [])) :=
            (Below.heap_setCell _ _ _ _ (by have := f1.out; show Dd ≠ w.heap.size + 1; omega)).trans ((Below.heap_setCell _ _ _ _ (by have := f1.out; show Dd ≠ w.heap.size; omega)).trans hK3.out)
          have o0 : ∀ o', (((w3.setCell ⟨w.heap.size, 0, none⟩ (.slice av m cv)).setCell ⟨w.heap.size + 1, 0, none⟩ (.bool bb)).putObj Dd o').cell? ⟨w.heap.size, 0, none⟩ = some (.slice av m cv) := fun o' => (Y4.kept (grownBy_putObj' _ Dd o') (by have := f1.out; simp; omega)).cell
          have o1 : ∀ o', (((w3.setCell ⟨w.heap.size, 0, none⟩ (.slice av m cv)).setCell ⟨w.heap.size + 1, 0, none⟩ (.bool bb)).putObj Dd o').cell? ⟨w.heap.size + 1, 0, none⟩ = some (.bool bb) := fun o' => (Y5.kept (grownBy_putObj' _ Dd o') (by have := f1.out; simp; omega)).cell
          have hfin := hide (fun o' => And.intro (ownsRow_putObj Q2 o' hKf rfl) (belowK_b (w := w) (Nat.le_refl _) _ Dd _ o' (by have := f1.out; omega) hKf rfl rfl))
          have v4 := hi3.b4.cell
          have f4 := hi3.b4.frozen
          have v5 := X5.cell
          have f5 := X5.frozen
          replace hB := hide hB
          clear X4 X5 Y4 Y5 Q1 Q2 hi3
          refine wpAnyIn_ready (rs := [3]) (by kernel_rfl) (by simp) ?_
          refine (AllReadyIn.cons (o := { dst := none, op := Op.store 22 (Operand.tmp 4) (Operand.tmp 25), type := 0, pos := "chunk.go:141", after := #[{ on := 0, ground := Ground.data }, { on := 2, ground := Ground.chain }, { on := 0, ground := Ground.phase }, { on := 1, ground := Ground.textOnly Departure.lateStores }, { on := 2, ground := Ground.textOnly Departure.lateStoresUnsure }], guard := none }) rfl (fun K3 hK3 => ?_) AllReadyIn.nil)
          go_simp
          refine hK3 _ _ ?_
          clear hK3 K3
          try simp only [Act.put, List.setIfInBounds_toArray, List.set_cons_zero, List.set_cons_succ]
          refine wpAnyIn_ready (rs := [4]) (by kernel_rfl) (by simp) ?_
          refine (AllReadyIn.cons (o := { dst := none, op := Op.store 4 (Operand.tmp 5) (Operand.tmp 27), type := 0, pos := "chunk.go:141", after := #[{ on := 2, ground := Ground.data }, { on := 3, ground := Ground.chain }, { on := 0, ground := Ground.phase }, { on := 1, ground := Ground.phase }, { on := 2, ground := Ground.phase }, { on := 3, ground := Ground.phase }], guard := none }) rfl (fun K4 hK4 => ?_) AllReadyIn.nil)
          go_simp
          refine hK4 _ _ ?_
          clear hK4 K4
          try simp only [Act.put, List.setIfInBounds_toArray, List.set_cons_zero, List.set_cons_succ]
          refine wpAnyIn_done (by kernel_rfl) ?_ _
          gi_wp2
          refine ⟨by simp, .inl ⟨_, _, rfl, run_takeDeferred hKf, ?_⟩⟩
          refine ⟨.tuple #[.slice av m cv, .bool bb], by simp [results, Tryz.f35, go_sem, o0, o1], ?_⟩
          obtain ⟨a2, c2, e2, hH⟩ := hasS_of_owns (hfin.out _).1 hvb.out
          cases e2
          refine ⟨?_, hB.out.trans (hfin.out _).2⟩
          cases bb with
          | true => exact .inl ⟨ts, _, _, by rw [hupk.out]; rfl, rfl, hH⟩
          | false => exact .inr ⟨by rw [hupk.out]; rfl, _, _, _, rfl⟩
        · go_simp
          refine ⟨trivial, (callsIn_wide.2 FL.out).mono ?_⟩
          rintro e w3 ⟨rfl, b3⟩
          have hi3 := hi.out.grown (B := w3) (grown_of_but (A := W) (B := w3) ⟨b3.os, b3.tape, b3.output, b3.size, b3.block⟩) hqb.out hsb.out (fun r e => .inl (by cases e; rfl))
          have v6 : w3.cell? ⟨b7, 0, none⟩ = some (.slice av m cv) := (Boxed.cell (show Boxed w3 b7 22 (.slice av m cv) from (b3.block _ hv.out.lt (fun e => hqb.out.2 e.symm)).trans hv.out))
          have O3 : Hid (w3.ownsRow w.heap.size 33 2 (.slice av m cv) m (flat (ts.map up))) := ho.out.kept (grown_of_but (A := W) (B := w3) ⟨b3.os, b3.tape, b3.output, b3.size, b3.block⟩) (.inr (fun e => h3.out (by rw [e])))
          have hK3 : Hid (w3.heap[Dd]? = some (.deferred (some []))) := (b3.block _ (Array.getElem?_eq_some_iff.1 hK).1 (fun e => by have := hqD.out; omega)).trans hK
          clear b3
          generalize decide (8 * B.length < P + 8 ∧ rd (num B) B.length P (8 * B.length - P) = 0) = bb at hupk ⊢
          refine hK2 _ _ ?_
          clear hK2 K2
          try simp only [Act.put, List.setIfInBounds_toArray, List.set_cons_zero, List.set_cons_succ]
          refine wpAnyIn_ready (rs := [0]) (by kernel_rfl) (by simp) ?_
          refine (AllReadyIn.cons (o := { dst := some 25, op := Op.load 22 (Operand.tmp 7), type := 22, pos := "chunk.go:141", after := #[], guard := none }) rfl (fun K0 hK0 => ?_) AllReadyIn.nil)
          go_simp
          refine hK0 _ _ ?_
          clear hK0 K0
          try simp only [Act.put, List.setIfInBounds_toArray, List.set_cons_zero, List.set_cons_succ]
          have X4 := hi3.b4.set (.slice av m cv)
          have X5 : Boxed (w3.setCell ⟨w.heap.size, 0, none⟩ (.slice av m cv)) (w.heap.size + 1) 4 (.bool false) := (Below.heap_setCell w3 _ _ _ (by show w.heap.size + 1 ≠ w.heap.size; omega)).trans hi3.b5
          have Y4 : Boxed ((w3.setCell ⟨w.heap.size, 0, none⟩ (.slice av m cv)).setCell ⟨w.heap.size + 1, 0, none⟩ (.bool bb)) w.heap.size 22 (.slice av m cv) := (Below.heap_setCell _ _ _ _ (by show w.heap.size ≠ w.heap.size + 1; omega)).trans X4
          have Y5 := X5.set (.bool bb)
          have Q1 := O3.out.kept (grownBy_setCell' w3 w.heap.size (.slice av m cv)) (.inr (hi3.b4.not_row (by decide) O3.out).symm)
          have Q2 := Q1.kept (grownBy_setCell' _ (w.heap.size + 1) (.bool bb)) (.inr (X5.not_row (by decide) Q1).symm)
          have hB := (hi3.bel.setCell (p := ⟨w.heap.size, 0, none⟩) (Nat.le_refl _) (.slice av m cv)).setCell (p := ⟨w.heap.size + 1, 0, none⟩) (by show w.heap.size ≤ w.heap.size + 1; omega) (.bool bb)
          have hKf : ((w3.setCell ⟨w.heap.size, 0, none⟩ (.slice av m cv)).setCell ⟨w.heap.size + 1, 0, none⟩ (.bool bb)).heap[Dd]? = some (.deferred (some [])) :=
            (Below.heap_setCell _ _ _ _ (by have := f1.out; show Dd ≠ w.heap.size + 1; omega)).trans ((Below.heap_setCell _ _ _ _ (by have := f1.out; show Dd ≠ w.heap.size; omega)).trans hK3.out)
          have o0 : ∀ o', (((w3.setCell ⟨w.heap.size, 0, none⟩ (.slice av m cv)).setCell ⟨w.heap.size + 1, 0, none⟩ (.bool bb)).putObj Dd o').cell? ⟨w.heap.size, 0, none⟩ = some (.slice av m cv) := fun o' => (Y4.kept (grownBy_putObj' _ Dd o') (by have := f1.out; simp; omega)).cell
          have o1 : ∀ o', (((w3.setCell ⟨w.heap.size, 0, none⟩ (.slice av m cv)).setCell ⟨w.heap.size + 1, 0, none⟩ (.bool bb)).putObj Dd o').cell? ⟨w.heap.size + 1, 0, none⟩ = some (.bool bb) := fun o' => (Y5.kept (grownBy_putObj' _ Dd o') (by have := f1.out; simp; omega)).cell
          have hfin := hide (fun o' => And.intro (ownsRow_putObj Q2 o' hKf rfl) (belowK_b (w := w) (Nat.le_refl _) _ Dd _ o' (by have := f1.out; omega) hKf rfl rfl))
          have v4 := hi3.b4.cell
          have f4 := hi3.b4.frozen
          have v5 := X5.cell
          have f5 := X5.frozen
          replace hB := hide hB
          clear X4 X5 Y4 Y5 Q1 Q2 hi3
          refine wpAnyIn_ready (rs := [3]) (by kernel_rfl) (by simp) ?_
          refine (AllReadyIn.cons (o := { dst := none, op := Op.store 22 (Operand.tmp 4) (Operand.tmp 25), type := 0, pos := "chunk.go:141", after := #[{ on := 0, ground := Ground.data }, { on := 2, ground := Ground.chain }, { on := 0, ground := Ground.phase }, { on := 1, ground := Ground.textOnly Departure.lateStores }, { on := 2, ground := Ground.textOnly Departure.lateStoresUnsure }], guard := none }) rfl (fun K3 hK3 => ?_) AllReadyIn.nil)
          go_simp
          refine hK3 _ _ ?_
          clear hK3 K3
          try simp only [Act.put, List.setIfInBounds_toArray, List.set_cons_zero, List.set_cons_succ]
          refine wpAnyIn_ready (rs := [4]) (by kernel_rfl) (by simp) ?_
          refine (AllReadyIn.cons (o := { dst := none, op := Op.store 4 (Operand.tmp 5) (Operand.tmp 27), type := 0, pos := "chunk.go:141", after := #[{ on := 2, ground := Ground.data }, { on := 3, ground := Ground.chain }, { on := 0, ground := Ground.phase }, { on := 1, ground := Ground.phase }, { on := 2, ground := Ground.phase }, { on := 3, ground := Ground.phase }], guard := none }) rfl (fun K4 hK4 => ?_) AllReadyIn.nil)
          go_simp
          refine hK4 _ _ ?_
          clear hK4 K4
          try simp only [Act.put, List.setIfInBounds_toArray, List.set_cons_zero, List.set_cons_succ]
          refine wpAnyIn_done (by kernel_rfl) ?_ _
          gi_wp2
          refine ⟨by simp, .inl ⟨_, _, rfl, run_takeDeferred hKf, ?_⟩⟩
          refine ⟨.tuple #[.slice av m cv, .bool bb], by simp [results, Tryz.f35, go_sem, o0, o1], ?_⟩
          obtain ⟨a2, c2, e2, hH⟩ := hasS_of_owns (hfin.out _).1 hvb.out
          cases e2
          refine ⟨?_, hB.out.trans (hfin.out _).2⟩
          cases bb with
          | true => exact .inl ⟨ts, _, _, by rw [hupk.out]; rfl, rfl, hH⟩
          | false => exact .inr ⟨by rw [hupk.out]; rfl, _, _, _, rfl⟩
    · exact absurd (hi.all x hx) hx0
  case stop =>
    intro Dd pre W hD hS hi hK
    obtain ⟨i, ts, P, x, hlt, hA, hpre, hx⟩ := hS
    obtain ⟨p, y, hpre2, hy0, Y4, Y5, hB⟩ := hi
    have hxy : x = y := by
      have h5 : okP ts ++ [x] = p ++ [y] := hpre.symm.trans hpre2
      have := congrArg List.getLast? h5
      simpa using this
    subst hxy
    have hAm := rdS_stuck (hx hy0) (show i + 1 ≤ m by omega)
    have hup : Hid (upk B m = none) := by show upk B m = none; unfold upk; rw [hAm]
    have o0 : ∀ o', (W.putObj Dd o').cell? ⟨w.heap.size, 0, none⟩ = some (.slice none 0 0) := fun o' => (Y4.kept (grownBy_putObj' _ Dd o') (by simp; omega)).cell
    have o1 : ∀ o', (W.putObj Dd o').cell? ⟨w.heap.size + 1, 0, none⟩ = some (.bool false) := fun o' => (Y5.kept (grownBy_putObj' _ Dd o') (by simp; omega)).cell
    have hBf := hide (fun o' => hB.trans (belowK_b (w := w) (Nat.le_refl _) W Dd _ o' (by have := BB.size; omega) hK rfl rfl))
    replace hqb := hide hqb
    replace hsb := hide hsb
    clear Y4 Y5 hx hpre hpre2 hB hAm hA hseq hI0 R5 T5 z3 z4 z5 hb7 hb7' BB hq0 hqlt s2
    gi_wp2
    refine ⟨by simp, .inl ⟨_, _, rfl, run_takeDeferred hK, ?_⟩⟩
    refine ⟨.tuple #[.slice none 0 0, .bool false], by simp [results, Tryz.f35, go_sem, o0, o1], ?_⟩
    exact ⟨.inr ⟨hup.out, none, 0, 0, rfl⟩, hBf.out _⟩

theorem unpack_any (w : World) (a : Option Addr) (len cap : Nat) (B : List Int) (m : Nat) (hm : m ≤ 4096) (H : Has w a len cap B) (hlen : len ≤ 1099511627776) (hT : Tabs w) :
    Calls Tryz.prog 35 #[.slice a len cap, .int .i64 (m : Int)] w (UnpT B m w) := callsIn_wide.1 (unpack_in 5 (by omega) w a len cap B m hm H hlen hT)
end Go.Proofs.YtmjjedbdedemcaaGreatDoor
