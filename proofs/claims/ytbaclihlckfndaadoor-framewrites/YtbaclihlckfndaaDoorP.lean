/-
  The walk of Write, where nothing is refused.
-/
import Derived.Test.YtbaclihlckfndaaDoorO
namespace Go.Proofs.YtbaclihlckfndaaDoor
open Go.RowKit Go.Shelf
set_option linter.unusedVariables false
attribute [local go_sem] Oper.semAt_some

theorem appended {W w1 : World} {n₀ B : Nat} {t e : TypeId} {size : Nat} {v v' : Value} {k m : Nat} {xs ys : List Value}
    (hv : Boxed W B t v) (hte : t ≠ e) (hrow : W.ownsRow n₀ e size v k xs) (hn₀ : n₀ ≤ W.heap.size) (hB : n₀ ≤ B)
    (hown' : w1.ownsRow n₀ e size v' m ys) (hgrow : W.grownBy w1 v.ownBlock) :
    Boxed w1 B t v ∧ Boxed (w1.setCell ⟨B, 0, none⟩ v') B t v' ∧ (w1.setCell ⟨B, 0, none⟩ v').ownsRow n₀ e size v' m ys ∧ KeepsOthers W (w1.setCell ⟨B, 0, none⟩ v') ∧ Below n₀ W (w1.setCell ⟨B, 0, none⟩ v') := by
  have hv1 : Boxed w1 B t v := hv.kept hgrow (hv.not_row hte hrow)
  refine ⟨hv1, hv1.set v', hown'.kept (grownBy_setCell' w1 B v') (.inr (hv1.not_row hte hown').symm), ?_, ?_⟩
  · refine (KeepsOthers.of_grownBy hgrow fun j o ej hj => ?_).trans (KeepsOthers.setCell _ _ _)
    rcases hrow.2 with ⟨rfl, _⟩ | ⟨g, cap, cur, rfl, _, hgb, _⟩
    · simp [Value.ownBlock] at ej
    · obtain rfl : g = j := by simpa [Value.ownBlock] using ej
      rw [hgb] at hj; cases hj; rfl
  · refine ((Below.refl n₀ W).grown hgrow hn₀ fun j ej => ?_).setCell (p := ⟨B, 0, none⟩) hB v'
    rcases hrow.2 with ⟨rfl, _⟩ | ⟨g, cap, cur, rfl, hb, _, _⟩
    · simp [Value.ownBlock] at ej
    · obtain rfl : g = j := by simpa [Value.ownBlock] using ej
      exact hb

theorem if_wanted {o : Oper} {A E : Prop} (hg : o.guard = none) {ys} (h : A) : if Region.wanted o ys = true then A else E := by rw [if_pos (by simp [Region.wanted, hg])]; exact h

/-- Some bytes and OK come out. -/
def Wrote (w : World) (l : List Int) (e : Ending) (w' : World) : Prop := ∃ a n cap, e = .returned (.tuple #[.slice a n cap, .int .i64 0]) ∧ Has w' a n cap l ∧ Below w.heap.size w w'

set_option maxRecDepth 100000 in
set_option maxHeartbeats 4000000 in
theorem write_in (n : Nat) (hn : 5 ≤ n) (w : World) (number : Nat) (a : Option Addr) (len cap : Nat) (ls : List (List Int)) (h : HasL w a len cap ls) (hl : len ≤ 4096) (hx : ∀ x ∈ ls, x.length ≤ 65536) (hnum : number + needL ls ≤ 4294967296) (hn1 : number ≤ 4294967295) (ht : Tab w) :
    CallsIn Fence.wide n Tryd.prog 9 #[.int .i64 (number : Int), .slice a len cap] w (Wrote w (secs (cutAll number ls))) := by
  have h1 : 1 ≤ n := by omega
  have hcount := hide (count_ok w a len cap ls h hl hx)
  have hneed : needL ls ≤ 1228800 := by
    have := needL_le hx len
    rw [← h.hlen, List.take_length] at this
    have := h.hlen
    omega
  have hisn : Hid (∀ w', Calls Tryd.prog 24 #[.int .i64 (number : Int)] w' fun e w'' => e = .returned (.bool true) ∧ w'' = w') := fun w' => by
    have := isNumber_any w' (number : Int)
    rwa [show decide (0 ≤ (number : Int) ∧ (number : Int) ≤ 4294967295) = true from decide_eq_true (by omega)] at this
  replace h := hide h
  replace ht := hide ht
  replace hx := hide hx
  obtain ⟨N, hN⟩ : ∃ N, needL ls = N := ⟨_, rfl⟩
  rw [hN] at hcount hneed hnum
  replace hN := hide hN
  have j1 : (number : Int) + N - 1 ≤ 4294967295 := by omega
  refine callsIn_of_wp_marks Tryd.func9 rfl trivial ?_ rfl
  simp only [Tryd.ntmps9, List.size_toArray, List.length_cons, List.length_nil, Nat.reduceAdd, Nat.reduceSub, Array.replicate_succ, Array.replicate_zero, List.push_toArray, List.append_toArray, List.nil_append, List.cons_append]
  gi_wp2
  refine ⟨trivial, (callsIn_wide.2 hcount.out).mono ?_⟩
  rintro e w' ⟨rfl, hw'⟩
  replace hw' := hw'.symm
  subst hw'
  gi_wp2
  refine ⟨trivial, (callsIn_wide.2 (hisn.out _)).mono ?_⟩
  rintro e w'' ⟨rfl, hw''⟩
  replace hw'' := hw''.symm
  subst hw''
  gi_wp2_with (first
    | (refine wpListIn_make_own _ rfl (.const (.int .i64 0)) (.tmp 30) 24 rfl w.heap.size 5 _ (.int .u8 0) 1 Tryd.underlying24 (info_parts info5).choose_spec.1 (info_parts info5).choose_spec.2.1 (info_parts info5).choose_spec.2.2.1 .i64 .i64 _ (N * 256) rfl rfl (by omega) (by rw [(info_parts info5).choose_spec.2.2.2]; omega) (by unfold maxLen; omega) (Nat.le_refl _) ?_; intro w1 O1 G1))
  have B1 : Hid (Below w.heap.size w w1) := ⟨G1.os, G1.tape, G1.output, G1.size, fun k hk => G1.block k hk (by simp)⟩
  have Z1 : Hid (w.heap.size < w1.heap.size) := (O1.lt w.heap.size rfl).2
  replace O1 := hide O1
  clear G1
  refine ⟨trivial, (split_in (n - 1) _ _ _ _ _).mono ?_⟩
  rintro e w2 ⟨rfl, hw2⟩
  gi_wp2
  have c0 := Boxed.new w1 24 (.slice (some ⟨w.heap.size, 0, none⟩) 0 (N * 256))
  have c1 := cell_new_l (w1.alloc (.cells #[.slice (some ⟨w.heap.size, 0, none⟩) 0 (N * 256)] 24)) (.int .i64 (number : Int)) 3
  have c2 := cell_new_l ((w1.alloc (.cells #[.slice (some ⟨w.heap.size, 0, none⟩) 0 (N * 256)] 24)).alloc (.cells #[.int .i64 (number : Int)] 3)) (.slice a len cap) 22
  simp only [World.size_alloc] at c1 c2
  have BB : Below w.heap.size w (((w1.alloc (.cells #[.slice (some ⟨w.heap.size, 0, none⟩) 0 (N * 256)] 24)).alloc (.cells #[.int .i64 (number : Int)] 3)).alloc (.cells #[.slice a len cap] 22)) := by
    have z := Z1.out
    exact ((B1.out.alloc (by omega) _).alloc (by simp; omega) _).alloc (by simp; omega) _
  have OO : (((w1.alloc (.cells #[.slice (some ⟨w.heap.size, 0, none⟩) 0 (N * 256)] 24)).alloc (.cells #[.int .i64 (number : Int)] 3)).alloc (.cells #[.slice a len cap] 22)).ownsRow w.heap.size 5 1 (.slice (some ⟨w.heap.size, 0, none⟩) 0 (N * 256)) 0 [] := ((O1.out.alloc _).alloc _).alloc _
  have z1 := Z1.out
  have hstops := split_stops (n - 1) (by omega) (w1.heap.size + 1) (w1.heap.size + 1 + 1) w.heap.size a len cap number ls _ w (by simp) (by simp) (by simp; omega) (cell_alloc_l _ c1.1) c2.1 h.out rfl BB (by rw [hN.out]; exact hnum)
  replace c0 : Boxed (((w1.alloc (.cells #[.slice (some ⟨w.heap.size, 0, none⟩) 0 (N * 256)] 24)).alloc (.cells #[.int .i64 (number : Int)] 3)).alloc (.cells #[.slice a len cap] 22)) w1.heap.size 24 (.slice (some ⟨w.heap.size, 0, none⟩) 0 (N * 256)) := (c0.alloc _).alloc _
  have zz : w1.heap.size < (((w1.alloc (.cells #[.slice (some ⟨w.heap.size, 0, none⟩) 0 (N * 256)] 24)).alloc (.cells #[.int .i64 (number : Int)] 3)).alloc (.cells #[.slice a len cap] 22)).heap.size := by simp; omega
  clear c1 c2 hw2
  generalize (((w1.alloc (.cells #[.slice (some ⟨w.heap.size, 0, none⟩) 0 (N * 256)] 24)).alloc (.cells #[.int .i64 (number : Int)] 3)).alloc (.cells #[.slice a len cap] 22)) = w3 at c0 BB OO hstops zz ⊢
  refine wpIn_rangeFunc_ownH rfl h1 (gf := 31) (lb := #[.pointer (some ⟨w1.heap.size + 1, 0, none⟩), .pointer (some ⟨w1.heap.size + 1 + 1, 0, none⟩)]) rfl trivial (enters_of Tryd.func31 (by kernel_rfl) rfl)
    hstops belowK_t (belowK_b (by omega)) (Below.refl _ _) (fun _ => rfl)
    (fun pre W => (∃ v, Boxed W w1.heap.size 24 v ∧ W.ownsRow w.heap.size 5 1 v (256 * pre.length) ((secs (pre.map (·.p))).map (Value.int .u8)) ∧ True) ∧ Below w.heap.size w W)
    (fun _ _ _ => False)
    (OwnFrom.and (Own.from (holdsRow_own w.heap.size w1.heap.size 24 5 1 (fun pre : List (Part w) => 256 * pre.length) (fun pre => (secs (pre.map (·.p))).map (Value.int .u8)) (fun _ _ => True)) _) (ownFrom_below (Nat.le_refl _) (by omega)))
    (fun _ _ _ _ _ hs _ _ => hs)
    ⟨⟨_, c0, by simpa [secs] using OO, trivial⟩, BB⟩
    (fun x a' W' => ∃ g, a' = { tmps := #[Value.int IntKind.i64 (number : Int), Value.slice a len cap, undef, undef, Value.slice none 0 0, Value.int IntKind.i64 0, Value.int IntKind.i64 (N : Int), Value.int IntKind.i64 0, Value.pointer (some ⟨w1.heap.size, 0, none⟩), .pointer (some ⟨g, 0, none⟩), undef, Value.tuple #[Value.int IntKind.i64 (N : Int), Value.int IntKind.i64 0], Value.slice a len cap, Value.tuple #[Value.int IntKind.i64 (N : Int), Value.int IntKind.i64 0], Value.int IntKind.i64 (N : Int), Value.int IntKind.i64 0, Value.int IntKind.i64 0, Value.bool false, undef, Value.int IntKind.i64 (number : Int), Value.bool true, Value.bool false, Value.bool false, Value.int IntKind.i64 (number : Int), Value.int IntKind.i64 (N : Int), Value.int IntKind.i64 ((number : Int) + (N : Int)), Value.int IntKind.i64 ((number : Int) + (N : Int) - 1), Value.bool (decide (4294967295 < (number : Int) + (N : Int) - 1)), Value.bool (decide (4294967295 < (number : Int) + (N : Int) - 1)), Value.int IntKind.i64 (N : Int), Value.int IntKind.i64 ((N : Int) * 256), Value.slice (some ⟨w.heap.size, 0, none⟩) 0 (N * 256), Value.int IntKind.i64 (number : Int), Value.slice a len cap, Value.func (Fn.func 31) #[] #[Value.pointer (some ⟨w1.heap.size + 1, 0, none⟩), Value.pointer (some ⟨w1.heap.size + 1 + 1, 0, none⟩)], x.val, undef, undef, undef, undef, undef, undef], defers := [] } ∧ W'.heap[g]? = some (.cells #[.int .i64 (x.p.number : Int), .slice x.a x.n x.cap, .int .i64 (x.p.flags : Int)] 53 (0, 0)))
    (fun x a' _ W W' row hs hg hr => by
      obtain ⟨g, e, hb⟩ := hs
      exact ⟨g, e, box_own hb hg (fun r e => (hr r e).2)⟩) ?assign ?body ?done ?stop
  case assign =>
    rintro l pre x W K ⟨⟨v, hv, ho, _⟩, hB⟩ hK
    have hKK := hide (hK)
    clear hK
    simp only [Part.val]
    gi_wp2
    exact hKK.out _ _ ((KeepsOthers.alloc W _).from _) ((Below.refl _ W).alloc hB.size _) ⟨⟨v, hv.alloc _, ho.alloc _, trivial⟩, hB.alloc hB.size _⟩ ⟨W.heap.size, rfl, heap_alloc_new W _⟩
  case body =>
    rintro l pre x a' W hwl hrec ⟨⟨v, hv, ho, _⟩, hB⟩ ⟨g, rfl, hg⟩ hlen
    have hX := box3_heap hg
    have x0 := hX.1
    have x1 := hX.2.1
    have x2 := hX.2.2
    have hxn := x.has.hlen
    have hxl := x.ok.len
    have hxf := x.ok.flags
    have hlay := hide (lay_any W x.p.number x.p.flags x.a x.n x.cap x.p.bytes (x.has.kept hB (Nat.le_refl _)) x.ok.number (by omega) (by omega) (ht.out.kept hB ht.out.pos))
    replace hlay : Hid (Calls Tryd.prog 26 #[.agg #[.int .i64 (x.p.number : Int), .slice x.a x.n x.cap, .int .i64 (x.p.flags : Int)]] W fun e w' => e = .returned (aval x.p.sec) ∧ Below W.heap.size W w') := hlay
    replace hv := hide hv
    replace ho := hide ho
    replace hB := hide hB
    clear hX hg
    gi_wp2
    refine ⟨trivial, fun _ => by omega, (CallsIn.inRound l (callsIn_wide.2 hlay.out)).mono ?_⟩
    rintro e W1 ⟨rfl, T1⟩
    gi_wp2_with (first
      | (refine wpListIn_alloc55 (fun _ => trivial) rfl rfl ?_; intro W2 S2 z2 G2; replace S2 := hide S2)
      | (refine wpListIn_store55 (fun _ => trivial) rfl (.tmp 10) (.tmp 37) rfl W1.heap.size zeros x.p.sec rfl rfl x.ok.slen x.ok.sbyts S2.out ?_; intro W3 z3 S3 G3; replace S3 := hide S3))
    have s1 := T1.size
    have T3 : Hid (Below W.heap.size W W3) := (T1.grown G2 T1.size (fun k e => by cases e)).grown G3 (by omega) (fun k e => by cases e; exact T1.size)
    have hs0 := hB.out.size
    have V3 : Hid (Boxed W3.drew w1.heap.size 24 v) := (T3.out.block _ hv.out.lt).trans hv.out
    have O3' := ho.out.kept (below_grown T3.out) (Classical.em _)
    have O3 : Hid (W3.drew.ownsRow w.heap.size 5 1 v (256 * pre.length) ((secs (pre.map (·.p))).map (Value.int .u8))) := O3'
    have H3 : Hid (Has W3.drew (some ⟨W1.heap.size, 0, none⟩) 256 256 x.p.sec) := by
      have := S3.out.has 0 256 256 (by omega) (by omega) (by unfold maxLen; omega)
      rw [List.drop_zero, List.take_of_length_le (by rw [x.ok.slen]; exact Nat.le_refl _)] at this
      exact this.drew
    have z3' : W.heap.size ≤ W3.drew.heap.size := T3.out.size
    have v8 := V3.out.cell
    have hpl : 256 * pre.length + 256 ≤ 4398046511104 := by have := hN.out; omega
    have hkeep : Hid (KeepsOthers W W3.drew) := ⟨T3.out.size, fun k o hk _ => (T3.out.block k (Array.getElem?_eq_some_iff.1 hk).1).trans hk⟩
    clear T1 G2 G3 O3' hlay x0 x1 x2
    (try simp only [Act.put, List.setIfInBounds_toArray, List.set_cons_zero, List.set_cons_succ])
    refine wpIn_region_any (by kernel_rfl) ?_
    change wpAnyIn _ _ _ _ _ _ _ _ _ (World.drew W3)
    refine wpAnyIn_ready (rs := [0, 1]) (by kernel_rfl) (by simp) ?_
    refine AllReadyIn.cons (o := { dst := some 38, op := Op.load 24 (Operand.tmp 8), type := 24, pos := "frame.go:55", after := #[], guard := none }) rfl (fun K0 hK0 => ?_) (AllReadyIn.cons (o := { dst := some 39, op := Op.slice 55 (Operand.tmp 10) none none none, type := 24, pos := "frame.go:55", after := #[], guard := none }) rfl (fun K1 hK1 => ?_) AllReadyIn.nil)
    · go_simp
      refine hK0 _ _ ?_
      clear hK0 K0
      (try simp only [Act.put, List.setIfInBounds_toArray, List.set_cons_zero, List.set_cons_succ])
      refine wpAnyIn_ready (rs := [1]) (by kernel_rfl) (by simp) ?_
      refine AllReadyIn.cons (o := { dst := some 39, op := Op.slice 55 (Operand.tmp 10) none none none, type := 24, pos := "frame.go:55", after := #[], guard := none }) rfl (fun K1 hK1 => ?_) AllReadyIn.nil
      go_simp
      refine hK1 _ _ ?_
      clear hK1 K1
      (try simp only [Act.put, List.setIfInBounds_toArray, List.set_cons_zero, List.set_cons_succ])
      refine wpAnyIn_ready (rs := [2]) (by kernel_rfl) (by simp) ?_
      refine AllReadyIn.cons (o := { dst := some 40, op := Op.call { callee := Callee.builtin Builtin.append, args := #[Operand.tmp 38, Operand.tmp 39], argTypes := #[24, 24] }, type := 24, pos := "frame.go:55", after := #[{ on := 0, ground := Ground.data }, { on := 1, ground := Ground.data }], guard := none }) rfl (fun K2 hK2 => ?_) AllReadyIn.nil
      refine if_wanted rfl ?_
      refine opIn_app (fun _ => trivial) (.tmp 38) (.tmp 39) rfl w.heap.size v (256 * pre.length) (secs (pre.map (·.p))) rfl O3.out ⟨W1.heap.size, 0, none⟩ 256 256 x.p.sec rfl H3.out (by omega) (by omega) ?_
      intro v' W4 O4 G4
      obtain ⟨a4, c4, hv4, _⟩ := has_of_owns O4 ((secs_byts pre).app x.ok.sbyts)
      subst hv4
      obtain ⟨A1, A2, A3, A4, A5⟩ := appended V3.out (by decide) O3.out (by omega) (by omega) O4 G4
      have q1 := A1.cell
      have q2 := A1.frozen
      refine hK2 _ _ ?_
      (try simp only [Act.put, List.setIfInBounds_toArray, List.set_cons_zero, List.set_cons_succ])
      refine wpAnyIn_ready (rs := [3]) (by kernel_rfl) (by simp) ?_
      refine AllReadyIn.cons (o := { dst := none, op := Op.store 24 (Operand.tmp 8) (Operand.tmp 40), type := 0, pos := "frame.go:55", after := #[{ on := 2, ground := Ground.data }, { on := 2, ground := Ground.chain }, { on := 0, ground := Ground.phase }, { on := 1, ground := Ground.phase }, { on := 2, ground := Ground.phase }], guard := none }) rfl (fun K3 hK3 => ?_) AllReadyIn.nil
      go_simp
      refine hK3 _ _ ?_
      refine wpAnyIn_done (by kernel_rfl) ?_ _
      (try simp only [Exit.inBlock])
      exact ⟨(hkeep.out.trans A4).from _, (T3.out.mono (by omega)).trans ((Below.ofdrew A5)), ⟨_, A2, by rw [List.map_append, List.map_singleton, secs_snoc, show 256 * (pre ++ [x]).length = 256 * pre.length + 256 by simp; omega]; exact A3, trivial⟩, (hB.out.trans (T3.out.mono (by omega))).trans (Below.ofdrew A5)⟩
    · go_simp
      refine hK1 _ _ ?_
      clear hK1 K1
      (try simp only [Act.put, List.setIfInBounds_toArray, List.set_cons_zero, List.set_cons_succ])
      refine wpAnyIn_ready (rs := [0]) (by kernel_rfl) (by simp) ?_
      refine AllReadyIn.cons (o := { dst := some 38, op := Op.load 24 (Operand.tmp 8), type := 24, pos := "frame.go:55", after := #[], guard := none }) rfl (fun K0 hK0 => ?_) AllReadyIn.nil
      go_simp
      refine hK0 _ _ ?_
      clear hK0 K0
      (try simp only [Act.put, List.setIfInBounds_toArray, List.set_cons_zero, List.set_cons_succ])
      refine wpAnyIn_ready (rs := [2]) (by kernel_rfl) (by simp) ?_
      refine AllReadyIn.cons (o := { dst := some 40, op := Op.call { callee := Callee.builtin Builtin.append, args := #[Operand.tmp 38, Operand.tmp 39], argTypes := #[24, 24] }, type := 24, pos := "frame.go:55", after := #[{ on := 0, ground := Ground.data }, { on := 1, ground := Ground.data }], guard := none }) rfl (fun K2 hK2 => ?_) AllReadyIn.nil
      refine if_wanted rfl ?_
      refine opIn_app (fun _ => trivial) (.tmp 38) (.tmp 39) rfl w.heap.size v (256 * pre.length) (secs (pre.map (·.p))) rfl O3.out ⟨W1.heap.size, 0, none⟩ 256 256 x.p.sec rfl H3.out (by omega) (by omega) ?_
      intro v' W4 O4 G4
      obtain ⟨a4, c4, hv4, _⟩ := has_of_owns O4 ((secs_byts pre).app x.ok.sbyts)
      subst hv4
      obtain ⟨A1, A2, A3, A4, A5⟩ := appended V3.out (by decide) O3.out (by omega) (by omega) O4 G4
      have q1 := A1.cell
      have q2 := A1.frozen
      refine hK2 _ _ ?_
      (try simp only [Act.put, List.setIfInBounds_toArray, List.set_cons_zero, List.set_cons_succ])
      refine wpAnyIn_ready (rs := [3]) (by kernel_rfl) (by simp) ?_
      refine AllReadyIn.cons (o := { dst := none, op := Op.store 24 (Operand.tmp 8) (Operand.tmp 40), type := 0, pos := "frame.go:55", after := #[{ on := 2, ground := Ground.data }, { on := 2, ground := Ground.chain }, { on := 0, ground := Ground.phase }, { on := 1, ground := Ground.phase }, { on := 2, ground := Ground.phase }], guard := none }) rfl (fun K3 hK3 => ?_) AllReadyIn.nil
      go_simp
      refine hK3 _ _ ?_
      refine wpAnyIn_done (by kernel_rfl) ?_ _
      (try simp only [Exit.inBlock])
      exact ⟨(hkeep.out.trans A4).from _, (T3.out.mono (by omega)).trans ((Below.ofdrew A5)), ⟨_, A2, by rw [List.map_append, List.map_singleton, secs_snoc, show 256 * (pre ++ [x]).length = 256 * pre.length + 256 by simp; omega]; exact A3, trivial⟩, (hB.out.trans (T3.out.mono (by omega))).trans (Below.ofdrew A5)⟩
  case done =>
    rintro D ys W hD hys ⟨⟨v, hv, ho, _⟩, hB⟩ hK
    have hl := secs_byts ys
    have ho2 : Hid (∀ o', (W.putObj D o').ownsRow w.heap.size 5 1 v (256 * ys.length) ((secs (ys.map (·.p))).map (Value.int .u8))) := fun o' => ownsRow_putObj ho o' hK rfl
    obtain ⟨a', cap', rfl, hH⟩ := has_of_owns ho hl
    have cv := hv.cell
    clear hv ho
    gi_wp2
    refine ⟨by simp, .inl ⟨_, _, rfl, run_takeDeferred hK, ?_⟩⟩
    refine ⟨_, results_tmp2 rfl _ _ _, ?_⟩
    obtain ⟨a2, cap2, e2, hH2⟩ := has_of_owns (ho2.out (.deferred none)) hl
    rw [hys] at hH2
    cases e2
    exact ⟨_, _, _, rfl, hH2, hB.trans (belowK_b (w := w) (Nat.le_refl _) W D _ _ (by omega) hK rfl rfl)⟩
  case stop =>
    rintro D c pre W _ _ h _
    exact h.elim
theorem write_any (w : World) (number : Nat) (a : Option Addr) (len cap : Nat) (ls : List (List Int)) (h : HasL w a len cap ls) (hl : len ≤ 4096) (hx : ∀ x ∈ ls, x.length ≤ 65536) (hnum : number + needL ls ≤ 4294967296) (hn1 : number ≤ 4294967295) (ht : Tab w) :
    Calls Tryd.prog 9 #[.int .i64 (number : Int), .slice a len cap] w (Wrote w (secs (cutAll number ls))) :=
  callsIn_wide.1 (write_in 5 (by omega) w number a len cap ls h hl hx hnum hn1 ht)
end Go.Proofs.YtbaclihlckfndaaDoor
