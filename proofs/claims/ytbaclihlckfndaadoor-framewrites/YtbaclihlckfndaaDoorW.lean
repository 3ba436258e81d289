/-
  The walk of Read.
-/
import Derived.Test.YtbaclihlckfndaaDoorV
namespace Go.Proofs.YtbaclihlckfndaaDoor
open Go.RowKit Go.Shelf
set_option linter.unusedVariables false
attribute [local go_sem] Oper.semAt_some

theorem slice_of_owns {W : World} {base : Nat} {e : TypeId} {size : Nat} {v : Value} {k : Nat} {xs : List Value} (h : W.ownsRow base e size v k xs) : ∃ a cap, v = .slice a k cap := by
  rcases h.2 with ⟨rfl, rfl⟩ | ⟨g, cap, cur, rfl, _⟩
  · exact ⟨_, _, rfl⟩
  · exact ⟨_, _, rfl⟩

set_option maxRecDepth 100000 in
set_option maxHeartbeats 8000000 in
theorem read_in (n : Nat) (hn : 5 ≤ n) (w : World) (number : Nat) (a : Option Addr) (len cap : Nat) (zs : List Int) (h : Has w a len cap zs) (hl : len ≤ 16777216) (hn1 : number ≤ 4294967295) (ht : Tab w) :
    CallsIn Fence.wide n Tryd.prog 16 #[.int .i64 (number : Int), .slice a len cap] w fun e w' => ∃ ps, Rights number false zs ps ∧ Reads w (St.none.run ps) e w' := by
  have h1 : 1 ≤ n := by omega
  have hisn : Hid (∀ w', Calls Tryd.prog 24 #[.int .i64 (number : Int)] w' fun e w'' => e = .returned (.bool true) ∧ w'' = w') := fun w' => by
    have := isNumber_any w' (number : Int)
    rwa [show decide (0 ≤ (number : Int) ∧ (number : Int) ≤ 4294967295) = true from decide_eq_true (by omega)] at this
  replace h := hide h
  replace ht := hide ht
  refine callsIn_of_wp_marks Tryd.func16 rfl trivial ?_ rfl
  simp only [Tryd.ntmps16, List.size_toArray, List.length_cons, List.length_nil, Nat.reduceAdd, Nat.reduceSub, Array.replicate_succ, Array.replicate_zero, List.push_toArray, List.append_toArray, List.nil_append, List.cons_append]
  gi_wp2
  refine ⟨trivial, (callsIn_wide.2 (hisn.out _)).mono ?_⟩
  rintro e w'' ⟨rfl, hw''⟩
  replace hw'' := hw''.symm
  subst hw''
  gi_wp2
  refine ⟨trivial, (right_in (n - 1) _ _ _ _ _).mono ?_⟩
  rintro e w2 ⟨rfl, hw2⟩
  gi_wp2
  have c1 := cell_new_l ((((w.alloc (.cells #[.slice none 0 0] 22)).alloc (.cells #[.slice none 0 0] 24)).alloc (.cells #[.int .i64 0] 3)).alloc (.cells #[.int .i64 0] 3)) (.int .i64 (number : Int)) 3
  have c2 := cell_new_l (((((w.alloc (.cells #[.slice none 0 0] 22)).alloc (.cells #[.slice none 0 0] 24)).alloc (.cells #[.int .i64 0] 3)).alloc (.cells #[.int .i64 0] 3)).alloc (.cells #[.int .i64 (number : Int)] 3)) (.slice a len cap) 24
  have b0 := Boxed.new w 22 (.slice none 0 0)
  have b1 := Boxed.new (w.alloc (.cells #[.slice none 0 0] 22)) 24 (.slice none 0 0)
  have b2 := Boxed.new ((w.alloc (.cells #[.slice none 0 0] 22)).alloc (.cells #[.slice none 0 0] 24)) 3 (.int .i64 0)
  have b3 := Boxed.new (((w.alloc (.cells #[.slice none 0 0] 22)).alloc (.cells #[.slice none 0 0] 24)).alloc (.cells #[.int .i64 0] 3)) 3 (.int .i64 0)
  simp only [World.size_alloc] at c1 c2 b1 b2 b3
  have BB : Below w.heap.size w ((((((w.alloc (.cells #[.slice none 0 0] 22)).alloc (.cells #[.slice none 0 0] 24)).alloc (.cells #[.int .i64 0] 3)).alloc (.cells #[.int .i64 0] 3)).alloc (.cells #[.int .i64 (number : Int)] 3)).alloc (.cells #[.slice a len cap] 24)) := ((((((Below.refl _ w).alloc (Nat.le_refl _) _).alloc (by simp) _).alloc (by simp; omega) _).alloc (by simp; omega) _).alloc (by simp; omega) _).alloc (by simp; omega) _
  have I0 : Inv w.heap.size ((((((w.alloc (.cells #[.slice none 0 0] 22)).alloc (.cells #[.slice none 0 0] 24)).alloc (.cells #[.int .i64 0] 3)).alloc (.cells #[.int .i64 0] 3)).alloc (.cells #[.int .i64 (number : Int)] 3)).alloc (.cells #[.slice a len cap] 24)) St.none (.slice none 0 0) (.slice none 0 0) w.heap.size [] :=
    ⟨((((b0.alloc _).alloc _).alloc _).alloc _).alloc _, (((b1.alloc _).alloc _).alloc _).alloc _, ((b2.alloc _).alloc _).alloc _, (b3.alloc _).alloc _, ⟨rfl, .inl ⟨rfl, rfl⟩⟩, ⟨rfl, fun i hi => by simp [St.none] at hi⟩, BB.size, Nat.le_refl _, ⟨rfl, .inl ⟨rfl, rfl⟩⟩⟩
  have zz : ((((((w.alloc (.cells #[.slice none 0 0] 22)).alloc (.cells #[.slice none 0 0] 24)).alloc (.cells #[.int .i64 0] 3)).alloc (.cells #[.int .i64 0] 3)).alloc (.cells #[.int .i64 (number : Int)] 3)).alloc (.cells #[.slice a len cap] 24)).heap.size = w.heap.size + 6 := by simp
  have hstops := right_stops (n - 1) (by omega) (w.heap.size + 1 + 1 + 1 + 1) (w.heap.size + 1 + 1 + 1 + 1 + 1) w.heap.size a len cap number zs ((((((w.alloc (.cells #[.slice none 0 0] 22)).alloc (.cells #[.slice none 0 0] 24)).alloc (.cells #[.int .i64 0] 3)).alloc (.cells #[.int .i64 0] 3)).alloc (.cells #[.int .i64 (number : Int)] 3)).alloc (.cells #[.slice a len cap] 24)) w (by omega) (by omega) (by omega) (cell_alloc_l _ c1.1) c2.1 h.out ht.out rfl BB (by omega)
  clear c1 c2 hw2 b0 b1 b2 b3
  generalize ((((((w.alloc (.cells #[.slice none 0 0] 22)).alloc (.cells #[.slice none 0 0] 24)).alloc (.cells #[.int .i64 0] 3)).alloc (.cells #[.int .i64 0] 3)).alloc (.cells #[.int .i64 (number : Int)] 3)).alloc (.cells #[.slice a len cap] 24)) = w3 at BB I0 hstops zz ⊢
  refine wpIn_rangeFunc_ownH rfl h1 (gf := 36) (lb := #[.pointer (some ⟨w.heap.size + 1 + 1 + 1 + 1, 0, none⟩), .pointer (some ⟨w.heap.size + 1 + 1 + 1 + 1 + 1, 0, none⟩)]) rfl trivial (enters_of Tryd.func36 (by kernel_rfl) rfl)
    hstops kp53_t (kp53_b (by omega)) (Below.refl _ _) (fun _ => rfl)
    (fun pre W => (∃ vl vo bo vs, Inv w.heap.size W (St.none.run (pre.map (·.p))) vl vo bo vs) ∧ Below w.heap.size w W)
    (fun _ _ _ => False)
    (OwnFrom.and (fun pre W W' row hs hg hr => by
      obtain ⟨vl, vo, bo, vs, hI⟩ := hs
      exact ⟨vl, vo, bo, vs, hI.own hg (fun r e => (hr r e).2)⟩) (ownFrom_below (Nat.le_refl _) (by omega)))
    (fun _ _ _ _ _ hs _ _ => hs)
    ⟨⟨_, _, _, _, I0⟩, BB⟩
    (fun x a' W' => ∃ g, a' = { tmps := #[Value.int IntKind.i64 (number : Int), Value.slice a len cap, undef, undef, Value.slice none 0 0, Value.int IntKind.i64 0, Value.int IntKind.i64 0, Value.pointer (some ⟨w.heap.size, 0, none⟩), Value.pointer (some ⟨w.heap.size + 1, 0, none⟩), Value.pointer (some ⟨w.heap.size + 1 + 1, 0, none⟩), Value.pointer (some ⟨w.heap.size + 1 + 1 + 1, 0, none⟩), .pointer (some ⟨g, 0, none⟩), Value.int IntKind.i64 (number : Int), Value.bool true, Value.bool false, Value.int IntKind.i64 (number : Int), Value.slice a len cap, Value.func (Fn.func 36) #[] #[Value.pointer (some ⟨w.heap.size + 1 + 1 + 1 + 1, 0, none⟩), Value.pointer (some ⟨w.heap.size + 1 + 1 + 1 + 1 + 1, 0, none⟩)], x.val, undef, undef, undef, undef, undef, undef, undef, undef, undef, undef, undef, undef, undef, undef, undef], defers := [] } ∧ W'.heap[g]? = some (.cells #[.int .i64 (x.p.number : Int), .slice x.a x.n x.cap, .int .i64 (x.p.flags : Int)] 53 (0, 0)))
    (fun x a' _ W W' row hs hg hr => by
      obtain ⟨g, e, hb⟩ := hs
      exact ⟨g, e, box_own hb hg (fun r e => (hr r e).2)⟩) ?assign ?body ?done ?stop
  case assign =>
    rintro l pre x W K ⟨⟨vl, vo, bo, vs, hI⟩, hB⟩ hK
    have hKK := hide (hK)
    clear hK
    simp only [Part.val]
    gi_wp2
    exact hKK.out _ _ ((KeepsOthers.alloc W _).from _) (kp53_grown (World.grownBy_alloc W _ none) hB.size (fun k e => by cases e)) ⟨⟨vl, vo, bo, vs, hI.alloc _⟩, hB.alloc hB.size _⟩ ⟨W.heap.size, rfl, heap_alloc_new W _⟩
  case body =>
    rintro l pre x a' W hwl hrec ⟨⟨vl, vo, bo, vs, hI⟩, hB⟩ ⟨g, rfl, hg⟩ hlen
    have hzl := h.out.hlen
    have hsn := run_seen (pre.map (·.p)) St.none
    simp only [St.none, List.length_map, Nat.zero_add] at hsn
    have hstep : St.none.run ((pre ++ [x]).map (·.p)) = (St.none.run (pre.map (·.p))).step x.p := by rw [List.map_append, run_app]; rfl
    rw [show ownPostG w3.heap.size (Kp53 w.heap.size) (fun pre W => (∃ vl vo bo vs, Inv w.heap.size W (St.none.run (pre.map (·.p))) vl vo bo vs) ∧ Below w.heap.size w W) (fun _ _ _ => False) (pre ++ [x]) W = ownPostG w3.heap.size (Kp53 w.heap.size) (fun (_ : List (Part w)) W => (∃ vl vo bo vs, Inv w.heap.size W ((St.none.run (pre.map (·.p))).step x.p) vl vo bo vs) ∧ Below w.heap.size w W) (fun _ _ _ => False) (pre ++ [x]) W from by
      funext e a W'
      cases e <;> simp only [ownPostG, hstep]]
    change (St.none.run (pre.map (·.p))).seen = pre.length at hsn
    have hcl := run_cur (pre.map (·.p)) St.none (parts_len pre) (by simp [St.none])
    have hrl := run_recs (pre.map (·.p)) St.none (by simp [St.none])
    have hbc := (run_byts (pre.map (·.p)) St.none (fun x hx => by cases hx) byts_nil (parts_byts pre)).2
    generalize St.none.run (pre.map (·.p)) = s at hI hsn hstep hcl hrl hbc ⊢
    have hX := box3_heap hg
    have hgne : ∀ (B : Nat) (t : TypeId) (u : Value), t ≠ 53 → Boxed W B t u → g ≠ B := fun B t u ht hb e => by subst e; rw [show W.heap[g]? = _ from hb] at hg; cases hg
    have n0 := hgne _ _ _ (by decide) hI.l
    have n1 := hgne _ _ _ (by decide) hI.o
    have n2 := hgne _ _ _ (by decide) hI.n
    have x1 := hX.2.1
    have q0 := hI.n.cell
    have q1 := hI.n.frozen
    have q2 := hI.o.cell
    have q3 := hI.o.frozen
    have hsb : s.seen ≤ 16777216 := by omega
    replace hsn := hide hsn
    have hxn := x.has.hlen
    have hxl := x.ok.len
    have hxf := x.ok.flags
    have hcurb : s.cur.length + x.n ≤ 4398046511104 := by omega
    have hrb : s.recs.length + 1 ≤ 1099511627776 := by omega
    clear hcl hrl
    replace hbc := hide hbc
    have G1 : W.grownBy (W.setCell ⟨w.heap.size + 1 + 1, 0, none⟩ (.int .i64 ((s.seen : Int) + 1))) (some (w.heap.size + 1 + 1)) := grownBy_setCell' W _ _
    have O1 : Hid ((W.setCell ⟨w.heap.size + 1 + 1, 0, none⟩ (.int .i64 ((s.seen : Int) + 1))).ownsRow bo 5 1 vo s.cur.length (s.cur.map (Value.int .u8))) := hI.cur.kept G1 (.inr (hI.n.not_row (by decide) hI.cur).symm)
    have H1 : Hid (Has (W.setCell ⟨w.heap.size + 1 + 1, 0, none⟩ (.int .i64 ((s.seen : Int) + 1))) x.a x.n x.cap x.p.bytes) := x.has.kept (hB.setCell (p := ⟨w.heap.size + 1 + 1, 0, none⟩) (by show _ ≤ _ + 2; omega) _) (Nat.le_refl _)
    have z1 : bo ≤ (W.setCell ⟨w.heap.size + 1 + 1, 0, none⟩ (.int .i64 ((s.seen : Int) + 1))).heap.size := by rw [World.size_setCell]; exact hI.hi
    replace hI := hide hI
    replace hg := hide hg
    clear hX hgne G1
    gi_wp2_with (first
      | (refine wpListIn_app (fun _ => trivial) rfl (.tmp 21) (.tmp 23) rfl bo vo s.cur.length s.cur rfl O1.out x.a x.n x.cap x.p.bytes rfl H1.out hcurb z1 ?_
         intro v' W2 O2 G2
         obtain ⟨a4, cp4, hv4, _⟩ := has_of_owns O2 (hbc.out.app x.ok.byts)
         subst hv4
         obtain ⟨A1, I2, M2⟩ := hI.out.mid hxn O2 G2
         have k1 := A1.cell
         have k2 := A1.frozen
         have hg2 := M2.1.2 _ _ _ hg.out
         have hX2 := box3_heap hg2
         have y0 := hX2.1
         have y1 := hX2.2.1
         have y2 := hX2.2.2
         replace I2 := hide I2
         replace M2 := hide M2
         clear O2 G2 A1 hg2 hX2))
    refine ⟨trivial, fun _ => by omega, (CallsIn.inRound l (callsIn_wide.2 (ends_any _ _ _ x.p.flags hxf))).mono ?_⟩
    rintro e W4 ⟨rfl, T4⟩
    have M4 := hide (M2.out.trans (Mv.below T4 I2.out.z))
    replace I2 := hide (I2.out.below T4)
    clear T4 y0 y1 y2 k1 k2 M2 x1 q0 q1 q2 q3 O1 H1 z1
    by_cases hf : 2 ≤ x.p.flags
    · rw [show decide (2 ≤ x.p.flags) = true from decide_eq_true hf]
      gi_wp2
      (try simp only [Act.put, List.setIfInBounds_toArray, List.set_cons_zero, List.set_cons_succ])
      have I5 := I2.out.drew
      have M5 := hide (M4.out.trans (Mv.drew I2.out.z))
      clear I2 M4
      refine wpIn_region_any (by kernel_rfl) ?_
      change wpAnyIn _ _ _ _ _ _ _ _ _ (World.drew W4)
      generalize World.drew W4 = W5 at I5 M5 ⊢
      have c0 := I5.l.cell
      have c1 := I5.o.cell
      have c4 := I5.n.cell
      replace I5 := hide I5
      refine wpAnyIn_ready (rs := [0, 1, 4]) (by kernel_rfl) (by simp) ?_
      refine AllReadyIn.cons (o := { dst := some 27, op := Op.load 22 (Operand.tmp 7), type := 22, pos := "frame.go:75", after := #[], guard := none }) rfl (fun K0 hK0 => ?_) ?_
      · go_simp
        refine hK0 _ _ ?_
        clear hK0 K0
        (try simp only [Act.put, List.setIfInBounds_toArray, List.set_cons_zero, List.set_cons_succ])
        refine wpAnyIn_ready (rs := [1, 4]) (by kernel_rfl) (by simp) ?_
        refine AllReadyIn.cons (o := { dst := some 28, op := Op.load 24 (Operand.tmp 8), type := 24, pos := "frame.go:75", after := #[], guard := none }) rfl (fun K0 hK0 => ?_) ?_
        · go_simp
          refine hK0 _ _ ?_
          clear hK0 K0
          (try simp only [Act.put, List.setIfInBounds_toArray, List.set_cons_zero, List.set_cons_succ])
          refine wpAnyIn_ready (rs := [2, 4]) (by kernel_rfl) (by simp) ?_
          refine AllReadyIn.cons (o := { dst := some 29, op := Op.buildSlice 22 1 #[(0, Operand.tmp 28)], type := 22, pos := "frame.go:75", after := #[{ on := 1, ground := Ground.data }], guard := none }) rfl (fun K0 hK0 => ?_) ?_
          · go_simp
            refine hK0 _ _ ?_
            clear hK0 K0
            (try simp only [Act.put, List.setIfInBounds_toArray, List.set_cons_zero, List.set_cons_succ])
            have J6 := I5.out.alloc (Obj.cells #[(Value.slice a4 (s.cur.length + x.n) cp4)] 24)
            have c0 := J6.l.cell
            have c4 := J6.n.cell
            have R6 := hide J6.rows
            have C6 := (cell_new_l W5 (Value.slice a4 (s.cur.length + x.n) cp4) 24).1
            have Z6 : w.heap.size + 1 + 1 + 1 + 1 ≤ (W5.alloc (Obj.cells #[(Value.slice a4 (s.cur.length + x.n) cp4)] 24)).heap.size := J6.g.lt
            clear J6
            refine wpAnyIn_ready (rs := [3, 4]) (by kernel_rfl) (by simp) ?_
            refine AllReadyIn.cons (o := { dst := some 30, op := Op.call { callee := Callee.builtin Builtin.append, args := #[Operand.tmp 27, Operand.tmp 29], argTypes := #[22, 22] }, type := 22, pos := "frame.go:75", after := #[{ on := 0, ground := Ground.data }, { on := 2, ground := Ground.data }], guard := none }) rfl (fun K0 hK0 => ?_) ?_
            · refine if_wanted rfl ?_
              refine opIn_app1 (fun _ => trivial) (.tmp 27) (.tmp 29) rfl (w.heap.size + 1 + 1 + 1 + 1) vl s.recs.length vs rfl R6.out W5.heap.size 1 (Value.slice a4 (s.cur.length + x.n) cp4) rfl C6 rfl hrb Z6 ?_
              intro vl2 W6 O6 G6
              obtain ⟨D1, D2, D3, D4, D5, D6⟩ := Inv.ended (sn := (s.seen : Int) + 1) (by simp) I5.out O6 G6
              obtain ⟨al, cl, el⟩ := slice_of_owns O6
              subst el
              have d0 := D1.cell
              have d1 := D1.frozen
              have d2 := D2.cell
              have d3 := D2.frozen
              have d4 := D3.cell
              have d5 := D3.frozen
              have d6 := D6.cell
              have d7 := (D6.other (show w.heap.size + 1 + 1 ≠ w.heap.size by omega) (Value.slice al (s.recs.length + 1) cl)).cell
              refine hK0 _ _ ?_
              clear hK0 K0
              (try simp only [Act.put, List.setIfInBounds_toArray, List.set_cons_zero, List.set_cons_succ])
              refine wpAnyIn_ready (rs := [4, 5]) (by kernel_rfl) (by simp) ?_
              refine AllReadyIn.cons (o := { dst := some 31, op := Op.load 3 (Operand.tmp 9), type := 3, pos := "frame.go:75", after := #[], guard := none }) rfl (fun K0 hK0 => ?_) ?_
              · go_simp
                refine hK0 _ _ ?_
                clear hK0 K0
                (try simp only [Act.put, List.setIfInBounds_toArray, List.set_cons_zero, List.set_cons_succ])
                refine wpAnyIn_ready (rs := [5]) (by kernel_rfl) (by simp) ?_
                refine AllReadyIn.cons (o := { dst := none, op := Op.store 22 (Operand.tmp 7) (Operand.tmp 30), type := 0, pos := "frame.go:75", after := #[{ on := 3, ground := Ground.data }, { on := 3, ground := Ground.chain }, { on := 0, ground := Ground.phase }, { on := 1, ground := Ground.phase }, { on := 2, ground := Ground.phase }, { on := 3, ground := Ground.phase }, { on := 4, ground := Ground.textOnly Departure.inlinedCapture }], guard := none }) rfl (fun K0 hK0 => ?_) ?_
                · go_simp
                  refine hK0 _ _ ?_
                  clear hK0 K0
                  (try simp only [Act.put, List.setIfInBounds_toArray, List.set_cons_zero, List.set_cons_succ])
                  refine wpAnyIn_ready (rs := [6]) (by kernel_rfl) (by simp) ?_
                  refine AllReadyIn.cons (o := { dst := none, op := Op.store 3 (Operand.tmp 10) (Operand.tmp 31), type := 0, pos := "frame.go:75", after := #[{ on := 4, ground := Ground.data }, { on := 5, ground := Ground.chain }, { on := 0, ground := Ground.phase }, { on := 1, ground := Ground.phase }, { on := 2, ground := Ground.phase }, { on := 3, ground := Ground.phase }, { on := 4, ground := Ground.phase }, { on := 5, ground := Ground.phase }], guard := none }) rfl (fun K0 hK0 => ?_) ?_
                  · go_simp
                    refine hK0 _ _ ?_
                    clear hK0 K0
                    (try simp only [Act.put, List.setIfInBounds_toArray, List.set_cons_zero, List.set_cons_succ])
                    refine wpAnyIn_done (by kernel_rfl) ?_ _
                    gi_wp2
                    (try simp only [Exit.inBlock])
                    exact ⟨(M5.out.trans D5).2.from _, (M5.out.trans D5).1, ⟨_, _, _, _, by unfold St.step; rw [if_pos hf]; exact D4⟩, hB.trans (M5.out.trans D5).1.1⟩
                  exact AllReadyIn.nil
                exact AllReadyIn.nil
              refine AllReadyIn.cons (o := { dst := none, op := Op.store 22 (Operand.tmp 7) (Operand.tmp 30), type := 0, pos := "frame.go:75", after := #[{ on := 3, ground := Ground.data }, { on := 3, ground := Ground.chain }, { on := 0, ground := Ground.phase }, { on := 1, ground := Ground.phase }, { on := 2, ground := Ground.phase }, { on := 3, ground := Ground.phase }, { on := 4, ground := Ground.textOnly Departure.inlinedCapture }], guard := none }) rfl (fun K0 hK0 => ?_) ?_
              · go_simp
                refine hK0 _ _ ?_
                clear hK0 K0
                (try simp only [Act.put, List.setIfInBounds_toArray, List.set_cons_zero, List.set_cons_succ])
                refine wpAnyIn_ready (rs := [4]) (by kernel_rfl) (by simp) ?_
                refine AllReadyIn.cons (o := { dst := some 31, op := Op.load 3 (Operand.tmp 9), type := 3, pos := "frame.go:75", after := #[], guard := none }) rfl (fun K0 hK0 => ?_) ?_
                · go_simp
                  refine hK0 _ _ ?_
                  clear hK0 K0
                  (try simp only [Act.put, List.setIfInBounds_toArray, List.set_cons_zero, List.set_cons_succ])
                  refine wpAnyIn_ready (rs := [6]) (by kernel_rfl) (by simp) ?_
                  refine AllReadyIn.cons (o := { dst := none, op := Op.store 3 (Operand.tmp 10) (Operand.tmp 31), type := 0, pos := "frame.go:75", after := #[{ on := 4, ground := Ground.data }, { on := 5, ground := Ground.chain }, { on := 0, ground := Ground.phase }, { on := 1, ground := Ground.phase }, { on := 2, ground := Ground.phase }, { on := 3, ground := Ground.phase }, { on := 4, ground := Ground.phase }, { on := 5, ground := Ground.phase }], guard := none }) rfl (fun K0 hK0 => ?_) ?_
                  · go_simp
                    refine hK0 _ _ ?_
                    clear hK0 K0
                    (try simp only [Act.put, List.setIfInBounds_toArray, List.set_cons_zero, List.set_cons_succ])
                    refine wpAnyIn_done (by kernel_rfl) ?_ _
                    gi_wp2
                    (try simp only [Exit.inBlock])
                    exact ⟨(M5.out.trans D5).2.from _, (M5.out.trans D5).1, ⟨_, _, _, _, by unfold St.step; rw [if_pos hf]; exact D4⟩, hB.trans (M5.out.trans D5).1.1⟩
                  exact AllReadyIn.nil
                exact AllReadyIn.nil
              exact AllReadyIn.nil
            refine AllReadyIn.cons (o := { dst := some 31, op := Op.load 3 (Operand.tmp 9), type := 3, pos := "frame.go:75", after := #[], guard := none }) rfl (fun K0 hK0 => ?_) ?_
            · go_simp
              refine hK0 _ _ ?_
              clear hK0 K0
              (try simp only [Act.put, List.setIfInBounds_toArray, List.set_cons_zero, List.set_cons_succ])
              refine wpAnyIn_ready (rs := [3]) (by kernel_rfl) (by simp) ?_
              refine AllReadyIn.cons (o := { dst := some 30, op := Op.call { callee := Callee.builtin Builtin.append, args := #[Operand.tmp 27, Operand.tmp 29], argTypes := #[22, 22] }, type := 22, pos := "frame.go:75", after := #[{ on := 0, ground := Ground.data }, { on := 2, ground := Ground.data }], guard := none }) rfl (fun K0 hK0 => ?_) ?_
              · refine if_wanted rfl ?_
                refine opIn_app1 (fun _ => trivial) (.tmp 27) (.tmp 29) rfl (w.heap.size + 1 + 1 + 1 + 1) vl s.recs.length vs rfl R6.out W5.heap.size 1 (Value.slice a4 (s.cur.length + x.n) cp4) rfl C6 rfl hrb Z6 ?_
                intro vl2 W6 O6 G6
                obtain ⟨D1, D2, D3, D4, D5, D6⟩ := Inv.ended (sn := (s.seen : Int) + 1) (by simp) I5.out O6 G6
                obtain ⟨al, cl, el⟩ := slice_of_owns O6
                subst el
                have d0 := D1.cell
                have d1 := D1.frozen
                have d2 := D2.cell
                have d3 := D2.frozen
                have d4 := D3.cell
                have d5 := D3.frozen
                have d6 := D6.cell
                have d7 := (D6.other (show w.heap.size + 1 + 1 ≠ w.heap.size by omega) (Value.slice al (s.recs.length + 1) cl)).cell
                refine hK0 _ _ ?_
                clear hK0 K0
                (try simp only [Act.put, List.setIfInBounds_toArray, List.set_cons_zero, List.set_cons_succ])
                refine wpAnyIn_ready (rs := [5]) (by kernel_rfl) (by simp) ?_
                refine AllReadyIn.cons (o := { dst := none, op := Op.store 22 (Operand.tmp 7) (Operand.tmp 30), type := 0, pos := "frame.go:75", after := #[{ on := 3, ground := Ground.data }, { on := 3, ground := Ground.chain }, { on := 0, ground := Ground.phase }, { on := 1, ground := Ground.phase }, { on := 2, ground := Ground.phase }, { on := 3, ground := Ground.phase }, { on := 4, ground := Ground.textOnly Departure.inlinedCapture }], guard := none }) rfl (fun K0 hK0 => ?_) ?_
                · go_simp
                  refine hK0 _ _ ?_
                  clear hK0 K0
                  (try simp only [Act.put, List.setIfInBounds_toArray, List.set_cons_zero, List.set_cons_succ])
                  refine wpAnyIn_ready (rs := [6]) (by kernel_rfl) (by simp) ?_
                  refine AllReadyIn.cons (o := { dst := none, op := Op.store 3 (Operand.tmp 10) (Operand.tmp 31), type := 0, pos := "frame.go:75", after := #[{ on := 4, ground := Ground.data }, { on := 5, ground := Ground.chain }, { on := 0, ground := Ground.phase }, { on := 1, ground := Ground.phase }, { on := 2, ground := Ground.phase }, { on := 3, ground := Ground.phase }, { on := 4, ground := Ground.phase }, { on := 5, ground := Ground.phase }], guard := none }) rfl (fun K0 hK0 => ?_) ?_
                  · go_simp
                    refine hK0 _ _ ?_
                    clear hK0 K0
                    (try simp only [Act.put, List.setIfInBounds_toArray, List.set_cons_zero, List.set_cons_succ])
                    refine wpAnyIn_done (by kernel_rfl) ?_ _
                    gi_wp2
                    (try simp only [Exit.inBlock])
                    exact ⟨(M5.out.trans D5).2.from _, (M5.out.trans D5).1, ⟨_, _, _, _, by unfold St.step; rw [if_pos hf]; exact D4⟩, hB.trans (M5.out.trans D5).1.1⟩
                  exact AllReadyIn.nil
                exact AllReadyIn.nil
              exact AllReadyIn.nil
            exact AllReadyIn.nil
          refine AllReadyIn.cons (o := { dst := some 31, op := Op.load 3 (Operand.tmp 9), type := 3, pos := "frame.go:75", after := #[], guard := none }) rfl (fun K0 hK0 => ?_) ?_
          · go_simp
            refine hK0 _ _ ?_
            clear hK0 K0
            (try simp only [Act.put, List.setIfInBounds_toArray, List.set_cons_zero, List.set_cons_succ])
            refine wpAnyIn_ready (rs := [2]) (by kernel_rfl) (by simp) ?_
            refine AllReadyIn.cons (o := { dst := some 29, op := Op.buildSlice 22 1 #[(0, Operand.tmp 28)], type := 22, pos := "frame.go:75", after := #[{ on := 1, ground := Ground.data }], guard := none }) rfl (fun K0 hK0 => ?_) ?_
            · go_simp
              refine hK0 _ _ ?_
              clear hK0 K0
              (try simp only [Act.put, List.setIfInBounds_toArray, List.set_cons_zero, List.set_cons_succ])
              have J6 := I5.out.alloc (Obj.cells #[(Value.slice a4 (s.cur.length + x.n) cp4)] 24)
              have c0 := J6.l.cell
              have c4 := J6.n.cell
              have R6 := hide J6.rows
              have C6 := (cell_new_l W5 (Value.slice a4 (s.cur.length + x.n) cp4) 24).1
              have Z6 : w.heap.size + 1 + 1 + 1 + 1 ≤ (W5.alloc (Obj.cells #[(Value.slice a4 (s.cur.length + x.n) cp4)] 24)).heap.size := J6.g.lt
              clear J6
              refine wpAnyIn_ready (rs := [3]) (by kernel_rfl) (by simp) ?_
              refine AllReadyIn.cons (o := { dst := some 30, op := Op.call { callee := Callee.builtin Builtin.append, args := #[Operand.tmp 27, Operand.tmp 29], argTypes := #[22, 22] }, type := 22, pos := "frame.go:75", after := #[{ on := 0, ground := Ground.data }, { on := 2, ground := Ground.data }], guard := none }) rfl (fun K0 hK0 => ?_) ?_
              · refine if_wanted rfl ?_
                refine opIn_app1 (fun _ => trivial) (.tmp 27) (.tmp 29) rfl (w.heap.size + 1 + 1 + 1 + 1) vl s.recs.length vs rfl R6.out W5.heap.size 1 (Value.slice a4 (s.cur.length + x.n) cp4) rfl C6 rfl hrb Z6 ?_
                intro vl2 W6 O6 G6
                obtain ⟨D1, D2, D3, D4, D5, D6⟩ := Inv.ended (sn := (s.seen : Int) + 1) (by simp) I5.out O6 G6
                obtain ⟨al, cl, el⟩ := slice_of_owns O6
                subst el
                have d0 := D1.cell
                have d1 := D1.frozen
                have d2 := D2.cell
                have d3 := D2.frozen
                have d4 := D3.cell
                have d5 := D3.frozen
                have d6 := D6.cell
                have d7 := (D6.other (show w.heap.size + 1 + 1 ≠ w.heap.size by omega) (Value.slice al (s.recs.length + 1) cl)).cell
                refine hK0 _ _ ?_
                clear hK0 K0
                (try simp only [Act.put, List.setIfInBounds_toArray, List.set_cons_zero, List.set_cons_succ])
                refine wpAnyIn_ready (rs := [5]) (by kernel_rfl) (by simp) ?_
                refine AllReadyIn.cons (o := { dst := none, op := Op.store 22 (Operand.tmp 7) (Operand.tmp 30), type := 0, pos := "frame.go:75", after := #[{ on := 3, ground := Ground.data }, { on := 3, ground := Ground.chain }, { on := 0, ground := Ground.phase }, { on := 1, ground := Ground.phase }, { on := 2, ground := Ground.phase }, { on := 3, ground := Ground.phase }, { on := 4, ground := Ground.textOnly Departure.inlinedCapture }], guard := none }) rfl (fun K0 hK0 => ?_) ?_
                · go_simp
                  refine hK0 _ _ ?_
                  clear hK0 K0
                  (try simp only [Act.put, List.setIfInBounds_toArray, List.set_cons_zero, List.set_cons_succ])
                  refine wpAnyIn_ready (rs := [6]) (by kernel_rfl) (by simp) ?_
                  refine AllReadyIn.cons (o := { dst := none, op := Op.store 3 (Operand.tmp 10) (Operand.tmp 31), type := 0, pos := "frame.go:75", after := #[{ on := 4, ground := Ground.data }, { on := 5, ground := Ground.chain }, { on := 0, ground := Ground.phase }, { on := 1, ground := Ground.phase }, { on := 2, ground := Ground.phase }, { on := 3, ground := Ground.phase }, { on := 4, ground := Ground.phase }, { on := 5, ground := Ground.phase }], guard := none }) rfl (fun K0 hK0 => ?_) ?_
                  · go_simp
                    refine hK0 _ _ ?_
                    clear hK0 K0
                    (try simp only [Act.put, List.setIfInBounds_toArray, List.set_cons_zero, List.set_cons_succ])
                    refine wpAnyIn_done (by kernel_rfl) ?_ _
                    gi_wp2
                    (try simp only [Exit.inBlock])
                    exact ⟨(M5.out.trans D5).2.from _, (M5.out.trans D5).1, ⟨_, _, _, _, by unfold St.step; rw [if_pos hf]; exact D4⟩, hB.trans (M5.out.trans D5).1.1⟩
                  exact AllReadyIn.nil
                exact AllReadyIn.nil
              exact AllReadyIn.nil
            exact AllReadyIn.nil
          exact AllReadyIn.nil
        refine AllReadyIn.cons (o := { dst := some 31, op := Op.load 3 (Operand.tmp 9), type := 3, pos := "frame.go:75", after := #[], guard := none }) rfl (fun K0 hK0 => ?_) ?_
        · go_simp
          refine hK0 _ _ ?_
          clear hK0 K0
          (try simp only [Act.put, List.setIfInBounds_toArray, List.set_cons_zero, List.set_cons_succ])
          refine wpAnyIn_ready (rs := [1]) (by kernel_rfl) (by simp) ?_
          refine AllReadyIn.cons (o := { dst := some 28, op := Op.load 24 (Operand.tmp 8), type := 24, pos := "frame.go:75", after := #[], guard := none }) rfl (fun K0 hK0 => ?_) ?_
          · go_simp
            refine hK0 _ _ ?_
            clear hK0 K0
            (try simp only [Act.put, List.setIfInBounds_toArray, List.set_cons_zero, List.set_cons_succ])
            refine wpAnyIn_ready (rs := [2]) (by kernel_rfl) (by simp) ?_
            refine AllReadyIn.cons (o := { dst := some 29, op := Op.buildSlice 22 1 #[(0, Operand.tmp 28)], type := 22, pos := "frame.go:75", after := #[{ on := 1, ground := Ground.data }], guard := none }) rfl (fun K0 hK0 => ?_) ?_
            · go_simp
              refine hK0 _ _ ?_
              clear hK0 K0
              (try simp only [Act.put, List.setIfInBounds_toArray, List.set_cons_zero, List.set_cons_succ])
              have J6 := I5.out.alloc (Obj.cells #[(Value.slice a4 (s.cur.length + x.n) cp4)] 24)
              have c0 := J6.l.cell
              have c4 := J6.n.cell
              have R6 := hide J6.rows
              have C6 := (cell_new_l W5 (Value.slice a4 (s.cur.length + x.n) cp4) 24).1
              have Z6 : w.heap.size + 1 + 1 + 1 + 1 ≤ (W5.alloc (Obj.cells #[(Value.slice a4 (s.cur.length + x.n) cp4)] 24)).heap.size := J6.g.lt
              clear J6
              refine wpAnyIn_ready (rs := [3]) (by kernel_rfl) (by simp) ?_
              refine AllReadyIn.cons (o := { dst := some 30, op := Op.call { callee := Callee.builtin Builtin.append, args := #[Operand.tmp 27, Operand.tmp 29], argTypes := #[22, 22] }, type := 22, pos := "frame.go:75", after := #[{ on := 0, ground := Ground.data }, { on := 2, ground := Ground.data }], guard := none }) rfl (fun K0 hK0 => ?_) ?_
              · refine if_wanted rfl ?_
                refine opIn_app1 (fun _ => trivial) (.tmp 27) (.tmp 29) rfl (w.heap.size + 1 + 1 + 1 + 1) vl s.recs.length vs rfl R6.out W5.heap.size 1 (Value.slice a4 (s.cur.length + x.n) cp4) rfl C6 rfl hrb Z6 ?_
                intro vl2 W6 O6 G6
                obtain ⟨D1, D2, D3, D4, D5, D6⟩ := Inv.ended (sn := (s.seen : Int) + 1) (by simp) I5.out O6 G6
                obtain ⟨al, cl, el⟩ := slice_of_owns O6
                subst el
                have d0 := D1.cell
                have d1 := D1.frozen
                have d2 := D2.cell
                have d3 := D2.frozen
                have d4 := D3.cell
                have d5 := D3.frozen
                have d6 := D6.cell
                have d7 := (D6.other (show w.heap.size + 1 + 1 ≠ w.heap.size by omega) (Value.slice al (s.recs.length + 1) cl)).cell
                refine hK0 _ _ ?_
                clear hK0 K0
                (try simp only [Act.put, List.setIfInBounds_toArray, List.set_cons_zero, List.set_cons_succ])
                refine wpAnyIn_ready (rs := [5]) (by kernel_rfl) (by simp) ?_
                refine AllReadyIn.cons (o := { dst := none, op := Op.store 22 (Operand.tmp 7) (Operand.tmp 30), type := 0, pos := "frame.go:75", after := #[{ on := 3, ground := Ground.data }, { on := 3, ground := Ground.chain }, { on := 0, ground := Ground.phase }, { on := 1, ground := Ground.phase }, { on := 2, ground := Ground.phase }, { on := 3, ground := Ground.phase }, { on := 4, ground := Ground.textOnly Departure.inlinedCapture }], guard := none }) rfl (fun K0 hK0 => ?_) ?_
                · go_simp
                  refine hK0 _ _ ?_
                  clear hK0 K0
                  (try simp only [Act.put, List.setIfInBounds_toArray, List.set_cons_zero, List.set_cons_succ])
                  refine wpAnyIn_ready (rs := [6]) (by kernel_rfl) (by simp) ?_
                  refine AllReadyIn.cons (o := { dst := none, op := Op.store 3 (Operand.tmp 10) (Operand.tmp 31), type := 0, pos := "frame.go:75", after := #[{ on := 4, ground := Ground.data }, { on := 5, ground := Ground.chain }, { on := 0, ground := Ground.phase }, { on := 1, ground := Ground.phase }, { on := 2, ground := Ground.phase }, { on := 3, ground := Ground.phase }, { on := 4, ground := Ground.phase }, { on := 5, ground := Ground.phase }], guard := none }) rfl (fun K0 hK0 => ?_) ?_
                  · go_simp
                    refine hK0 _ _ ?_
                    clear hK0 K0
                    (try simp only [Act.put, List.setIfInBounds_toArray, List.set_cons_zero, List.set_cons_succ])
                    refine wpAnyIn_done (by kernel_rfl) ?_ _
                    gi_wp2
                    (try simp only [Exit.inBlock])
                    exact ⟨(M5.out.trans D5).2.from _, (M5.out.trans D5).1, ⟨_, _, _, _, by unfold St.step; rw [if_pos hf]; exact D4⟩, hB.trans (M5.out.trans D5).1.1⟩
                  exact AllReadyIn.nil
                exact AllReadyIn.nil
              exact AllReadyIn.nil
            exact AllReadyIn.nil
          exact AllReadyIn.nil
        exact AllReadyIn.nil
      refine AllReadyIn.cons (o := { dst := some 28, op := Op.load 24 (Operand.tmp 8), type := 24, pos := "frame.go:75", after := #[], guard := none }) rfl (fun K0 hK0 => ?_) ?_
      · go_simp
        refine hK0 _ _ ?_
        clear hK0 K0
        (try simp only [Act.put, List.setIfInBounds_toArray, List.set_cons_zero, List.set_cons_succ])
        refine wpAnyIn_ready (rs := [0, 2, 4]) (by kernel_rfl) (by simp) ?_
        refine AllReadyIn.cons (o := { dst := some 27, op := Op.load 22 (Operand.tmp 7), type := 22, pos := "frame.go:75", after := #[], guard := none }) rfl (fun K0 hK0 => ?_) ?_
        · go_simp
          refine hK0 _ _ ?_
          clear hK0 K0
          (try simp only [Act.put, List.setIfInBounds_toArray, List.set_cons_zero, List.set_cons_succ])
          refine wpAnyIn_ready (rs := [2, 4]) (by kernel_rfl) (by simp) ?_
          refine AllReadyIn.cons (o := { dst := some 29, op := Op.buildSlice 22 1 #[(0, Operand.tmp 28)], type := 22, pos := "frame.go:75", after := #[{ on := 1, ground := Ground.data }], guard := none }) rfl (fun K0 hK0 => ?_) ?_
          · go_simp
            refine hK0 _ _ ?_
            clear hK0 K0
            (try simp only [Act.put, List.setIfInBounds_toArray, List.set_cons_zero, List.set_cons_succ])
            have J6 := I5.out.alloc (Obj.cells #[(Value.slice a4 (s.cur.length + x.n) cp4)] 24)
            have c0 := J6.l.cell
            have c4 := J6.n.cell
            have R6 := hide J6.rows
            have C6 := (cell_new_l W5 (Value.slice a4 (s.cur.length + x.n) cp4) 24).1
            have Z6 : w.heap.size + 1 + 1 + 1 + 1 ≤ (W5.alloc (Obj.cells #[(Value.slice a4 (s.cur.length + x.n) cp4)] 24)).heap.size := J6.g.lt
            clear J6
            refine wpAnyIn_ready (rs := [3, 4]) (by kernel_rfl) (by simp) ?_
            refine AllReadyIn.cons (o := { dst := some 30, op := Op.call { callee := Callee.builtin Builtin.append, args := #[Operand.tmp 27, Operand.tmp 29], argTypes := #[22, 22] }, type := 22, pos := "frame.go:75", after := #[{ on := 0, ground := Ground.data }, { on := 2, ground := Ground.data }], guard := none }) rfl (fun K0 hK0 => ?_) ?_
            · refine if_wanted rfl ?_
              refine opIn_app1 (fun _ => trivial) (.tmp 27) (.tmp 29) rfl (w.heap.size + 1 + 1 + 1 + 1) vl s.recs.length vs rfl R6.out W5.heap.size 1 (Value.slice a4 (s.cur.length + x.n) cp4) rfl C6 rfl hrb Z6 ?_
              intro vl2 W6 O6 G6
              obtain ⟨D1, D2, D3, D4, D5, D6⟩ := Inv.ended (sn := (s.seen : Int) + 1) (by simp) I5.out O6 G6
              obtain ⟨al, cl, el⟩ := slice_of_owns O6
              subst el
              have d0 := D1.cell
              have d1 := D1.frozen
              have d2 := D2.cell
              have d3 := D2.frozen
              have d4 := D3.cell
              have d5 := D3.frozen
              have d6 := D6.cell
              have d7 := (D6.other (show w.heap.size + 1 + 1 ≠ w.heap.size by omega) (Value.slice al (s.recs.length + 1) cl)).cell
              refine hK0 _ _ ?_
              clear hK0 K0
              (try simp only [Act.put, List.setIfInBounds_toArray, List.set_cons_zero, List.set_cons_succ])
              refine wpAnyIn_ready (rs := [4, 5]) (by kernel_rfl) (by simp) ?_
              refine AllReadyIn.cons (o := { dst := some 31, op := Op.load 3 (Operand.tmp 9), type := 3, pos := "frame.go:75", after := #[], guard := none }) rfl (fun K0 hK0 => ?_) ?_
              · go_simp
                refine hK0 _ _ ?_
                clear hK0 K0
                (try simp only [Act.put, List.setIfInBounds_toArray, List.set_cons_zero, List.set_cons_succ])
                refine wpAnyIn_ready (rs := [5]) (by kernel_rfl) (by simp) ?_
                refine AllReadyIn.cons (o := { dst := none, op := Op.store 22 (Operand.tmp 7) (Operand.tmp 30), type := 0, pos := "frame.go:75", after := #[{ on := 3, ground := Ground.data }, { on := 3, ground := Ground.chain }, { on := 0, ground := Ground.phase }, { on := 1, ground := Ground.phase }, { on := 2, ground := Ground.phase }, { on := 3, ground := Ground.phase }, { on := 4, ground := Ground.textOnly Departure.inlinedCapture }], guard := none }) rfl (fun K0 hK0 => ?_) ?_
                · go_simp
                  refine hK0 _ _ ?_
                  clear hK0 K0
                  (try simp only [Act.put, List.setIfInBounds_toArray, List.set_cons_zero, List.set_cons_succ])
                  refine wpAnyIn_ready (rs := [6]) (by kernel_rfl) (by simp) ?_
                  refine AllReadyIn.cons (o := { dst := none, op := Op.store 3 (Operand.tmp 10) (Operand.tmp 31), type := 0, pos := "frame.go:75", after := #[{ on := 4, ground := Ground.data }, { on := 5, ground := Ground.chain }, { on := 0, ground := Ground.phase }, { on := 1, ground := Ground.phase }, { on := 2, ground := Ground.phase }, { on := 3, ground := Ground.phase }, { on := 4, ground := Ground.phase }, { on := 5, ground := Ground.phase }], guard := none }) rfl (fun K0 hK0 => ?_) ?_
                  · go_simp
                    refine hK0 _ _ ?_
                    clear hK0 K0
                    (try simp only [Act.put, List.setIfInBounds_toArray, List.set_cons_zero, List.set_cons_succ])
                    refine wpAnyIn_done (by kernel_rfl) ?_ _
                    gi_wp2
                    (try simp only [Exit.inBlock])
                    exact ⟨(M5.out.trans D5).2.from _, (M5.out.trans D5).1, ⟨_, _, _, _, by unfold St.step; rw [if_pos hf]; exact D4⟩, hB.trans (M5.out.trans D5).1.1⟩
                  exact AllReadyIn.nil
                exact AllReadyIn.nil
              refine AllReadyIn.cons (o := { dst := none, op := Op.store 22 (Operand.tmp 7) (Operand.tmp 30), type := 0, pos := "frame.go:75", after := #[{ on := 3, ground := Ground.data }, { on := 3, ground := Ground.chain }, { on := 0, ground := Ground.phase }, { on := 1, ground := Ground.phase }, { on := 2, ground := Ground.phase }, { on := 3, ground := Ground.phase }, { on := 4, ground := Ground.textOnly Departure.inlinedCapture }], guard := none }) rfl (fun K0 hK0 => ?_) ?_
              · go_simp
                refine hK0 _ _ ?_
                clear hK0 K0
                (try simp only [Act.put, List.setIfInBounds_toArray, List.set_cons_zero, List.set_cons_succ])
                refine wpAnyIn_ready (rs := [4]) (by kernel_rfl) (by simp) ?_
                refine AllReadyIn.cons (o := { dst := some 31, op := Op.load 3 (Operand.tmp 9), type := 3, pos := "frame.go:75", after := #[], guard := none }) rfl (fun K0 hK0 => ?_) ?_
                · go_simp
                  refine hK0 _ _ ?_
                  clear hK0 K0
                  (try simp only [Act.put, List.setIfInBounds_toArray, List.set_cons_zero, List.set_cons_succ])
                  refine wpAnyIn_ready (rs := [6]) (by kernel_rfl) (by simp) ?_
                  refine AllReadyIn.cons (o := { dst := none, op := Op.store 3 (Operand.tmp 10) (Operand.tmp 31), type := 0, pos := "frame.go:75", after := #[{ on := 4, ground := Ground.data }, { on := 5, ground := Ground.chain }, { on := 0, ground := Ground.phase }, { on := 1, ground := Ground.phase }, { on := 2, ground := Ground.phase }, { on := 3, ground := Ground.phase }, { on := 4, ground := Ground.phase }, { on := 5, ground := Ground.phase }], guard := none }) rfl (fun K0 hK0 => ?_) ?_
                  · go_simp
                    refine hK0 _ _ ?_
                    clear hK0 K0
                    (try simp only [Act.put, List.setIfInBounds_toArray, List.set_cons_zero, List.set_cons_succ])
                    refine wpAnyIn_done (by kernel_rfl) ?_ _
                    gi_wp2
                    (try simp only [Exit.inBlock])
                    exact ⟨(M5.out.trans D5).2.from _, (M5.out.trans D5).1, ⟨_, _, _, _, by unfold St.step; rw [if_pos hf]; exact D4⟩, hB.trans (M5.out.trans D5).1.1⟩
                  exact AllReadyIn.nil
                exact AllReadyIn.nil
              exact AllReadyIn.nil
            refine AllReadyIn.cons (o := { dst := some 31, op := Op.load 3 (Operand.tmp 9), type := 3, pos := "frame.go:75", after := #[], guard := none }) rfl (fun K0 hK0 => ?_) ?_
            · go_simp
              refine hK0 _ _ ?_
              clear hK0 K0
              (try simp only [Act.put, List.setIfInBounds_toArray, List.set_cons_zero, List.set_cons_succ])
              refine wpAnyIn_ready (rs := [3]) (by kernel_rfl) (by simp) ?_
              refine AllReadyIn.cons (o := { dst := some 30, op := Op.call { callee := Callee.builtin Builtin.append, args := #[Operand.tmp 27, Operand.tmp 29], argTypes := #[22, 22] }, type := 22, pos := "frame.go:75", after := #[{ on := 0, ground := Ground.data }, { on := 2, ground := Ground.data }], guard := none }) rfl (fun K0 hK0 => ?_) ?_
              · refine if_wanted rfl ?_
                refine opIn_app1 (fun _ => trivial) (.tmp 27) (.tmp 29) rfl (w.heap.size + 1 + 1 + 1 + 1) vl s.recs.length vs rfl R6.out W5.heap.size 1 (Value.slice a4 (s.cur.length + x.n) cp4) rfl C6 rfl hrb Z6 ?_
                intro vl2 W6 O6 G6
                obtain ⟨D1, D2, D3, D4, D5, D6⟩ := Inv.ended (sn := (s.seen : Int) + 1) (by simp) I5.out O6 G6
                obtain ⟨al, cl, el⟩ := slice_of_owns O6
                subst el
                have d0 := D1.cell
                have d1 := D1.frozen
                have d2 := D2.cell
                have d3 := D2.frozen
                have d4 := D3.cell
                have d5 := D3.frozen
                have d6 := D6.cell
                have d7 := (D6.other (show w.heap.size + 1 + 1 ≠ w.heap.size by omega) (Value.slice al (s.recs.length + 1) cl)).cell
                refine hK0 _ _ ?_
                clear hK0 K0
                (try simp only [Act.put, List.setIfInBounds_toArray, List.set_cons_zero, List.set_cons_succ])
                refine wpAnyIn_ready (rs := [5]) (by kernel_rfl) (by simp) ?_
                refine AllReadyIn.cons (o := { dst := none, op := Op.store 22 (Operand.tmp 7) (Operand.tmp 30), type := 0, pos := "frame.go:75", after := #[{ on := 3, ground := Ground.data }, { on := 3, ground := Ground.chain }, { on := 0, ground := Ground.phase }, { on := 1, ground := Ground.phase }, { on := 2, ground := Ground.phase }, { on := 3, ground := Ground.phase }, { on := 4, ground := Ground.textOnly Departure.inlinedCapture }], guard := none }) rfl (fun K0 hK0 => ?_) ?_
                · go_simp
                  refine hK0 _ _ ?_
                  clear hK0 K0
                  (try simp only [Act.put, List.setIfInBounds_toArray, List.set_cons_zero, List.set_cons_succ])
                  refine wpAnyIn_ready (rs := [6]) (by kernel_rfl) (by simp) ?_
                  refine AllReadyIn.cons (o := { dst := none, op := Op.store 3 (Operand.tmp 10) (Operand.tmp 31), type := 0, pos := "frame.go:75", after := #[{ on := 4, ground := Ground.data }, { on := 5, ground := Ground.chain }, { on := 0, ground := Ground.phase }, { on := 1, ground := Ground.phase }, { on := 2, ground := Ground.phase }, { on := 3, ground := Ground.phase }, { on := 4, ground := Ground.phase }, { on := 5, ground := Ground.phase }], guard := none }) rfl (fun K0 hK0 => ?_) ?_
                  · go_simp
                    refine hK0 _ _ ?_
                    clear hK0 K0
                    (try simp only [Act.put, List.setIfInBounds_toArray, List.set_cons_zero, List.set_cons_succ])
                    refine wpAnyIn_done (by kernel_rfl) ?_ _
                    gi_wp2
                    (try simp only [Exit.inBlock])
                    exact ⟨(M5.out.trans D5).2.from _, (M5.out.trans D5).1, ⟨_, _, _, _, by unfold St.step; rw [if_pos hf]; exact D4⟩, hB.trans (M5.out.trans D5).1.1⟩
                  exact AllReadyIn.nil
                exact AllReadyIn.nil
              exact AllReadyIn.nil
            exact AllReadyIn.nil
          refine AllReadyIn.cons (o := { dst := some 31, op := Op.load 3 (Operand.tmp 9), type := 3, pos := "frame.go:75", after := #[], guard := none }) rfl (fun K0 hK0 => ?_) ?_
          · go_simp
            refine hK0 _ _ ?_
            clear hK0 K0
            (try simp only [Act.put, List.setIfInBounds_toArray, List.set_cons_zero, List.set_cons_succ])
            refine wpAnyIn_ready (rs := [2]) (by kernel_rfl) (by simp) ?_
            refine AllReadyIn.cons (o := { dst := some 29, op := Op.buildSlice 22 1 #[(0, Operand.tmp 28)], type := 22, pos := "frame.go:75", after := #[{ on := 1, ground := Ground.data }], guard := none }) rfl (fun K0 hK0 => ?_) ?_
            · go_simp
              refine hK0 _ _ ?_
              clear hK0 K0
              (try simp only [Act.put, List.setIfInBounds_toArray, List.set_cons_zero, List.set_cons_succ])
              have J6 := I5.out.alloc (Obj.cells #[(Value.slice a4 (s.cur.length + x.n) cp4)] 24)
              have c0 := J6.l.cell
              have c4 := J6.n.cell
              have R6 := hide J6.rows
              have C6 := (cell_new_l W5 (Value.slice a4 (s.cur.length + x.n) cp4) 24).1
              have Z6 : w.heap.size + 1 + 1 + 1 + 1 ≤ (W5.alloc (Obj.cells #[(Value.slice a4 (s.cur.length + x.n) cp4)] 24)).heap.size := J6.g.lt
              clear J6
              refine wpAnyIn_ready (rs := [3]) (by kernel_rfl) (by simp) ?_
              refine AllReadyIn.cons (o := { dst := some 30, op := Op.call { callee := Callee.builtin Builtin.append, args := #[Operand.tmp 27, Operand.tmp 29], argTypes := #[22, 22] }, type := 22, pos := "frame.go:75", after := #[{ on := 0, ground := Ground.data }, { on := 2, ground := Ground.data }], guard := none }) rfl (fun K0 hK0 => ?_) ?_
              · refine if_wanted rfl ?_
                refine opIn_app1 (fun _ => trivial) (.tmp 27) (.tmp 29) rfl (w.heap.size + 1 + 1 + 1 + 1) vl s.recs.length vs rfl R6.out W5.heap.size 1 (Value.slice a4 (s.cur.length + x.n) cp4) rfl C6 rfl hrb Z6 ?_
                intro vl2 W6 O6 G6
                obtain ⟨D1, D2, D3, D4, D5, D6⟩ := Inv.ended (sn := (s.seen : Int) + 1) (by simp) I5.out O6 G6
                obtain ⟨al, cl, el⟩ := slice_of_owns O6
                subst el
                have d0 := D1.cell
                have d1 := D1.frozen
                have d2 := D2.cell
                have d3 := D2.frozen
                have d4 := D3.cell
                have d5 := D3.frozen
                have d6 := D6.cell
                have d7 := (D6.other (show w.heap.size + 1 + 1 ≠ w.heap.size by omega) (Value.slice al (s.recs.length + 1) cl)).cell
                refine hK0 _ _ ?_
                clear hK0 K0
                (try simp only [Act.put, List.setIfInBounds_toArray, List.set_cons_zero, List.set_cons_succ])
                refine wpAnyIn_ready (rs := [5]) (by kernel_rfl) (by simp) ?_
                refine AllReadyIn.cons (o := { dst := none, op := Op.store 22 (Operand.tmp 7) (Operand.tmp 30), type := 0, pos := "frame.go:75", after := #[{ on := 3, ground := Ground.data }, { on := 3, ground := Ground.chain }, { on := 0, ground := Ground.phase }, { on := 1, ground := Ground.phase }, { on := 2, ground := Ground.phase }, { on := 3, ground := Ground.phase }, { on := 4, ground := Ground.textOnly Departure.inlinedCapture }], guard := none }) rfl (fun K0 hK0 => ?_) ?_
                · go_simp
                  refine hK0 _ _ ?_
                  clear hK0 K0
                  (try simp only [Act.put, List.setIfInBounds_toArray, List.set_cons_zero, List.set_cons_succ])
                  refine wpAnyIn_ready (rs := [6]) (by kernel_rfl) (by simp) ?_
                  refine AllReadyIn.cons (o := { dst := none, op := Op.store 3 (Operand.tmp 10) (Operand.tmp 31), type := 0, pos := "frame.go:75", after := #[{ on := 4, ground := Ground.data }, { on := 5, ground := Ground.chain }, { on := 0, ground := Ground.phase }, { on := 1, ground := Ground.phase }, { on := 2, ground := Ground.phase }, { on := 3, ground := Ground.phase }, { on := 4, ground := Ground.phase }, { on := 5, ground := Ground.phase }], guard := none }) rfl (fun K0 hK0 => ?_) ?_
                  · go_simp
                    refine hK0 _ _ ?_
                    clear hK0 K0
                    (try simp only [Act.put, List.setIfInBounds_toArray, List.set_cons_zero, List.set_cons_succ])
                    refine wpAnyIn_done (by kernel_rfl) ?_ _
                    gi_wp2
                    (try simp only [Exit.inBlock])
                    exact ⟨(M5.out.trans D5).2.from _, (M5.out.trans D5).1, ⟨_, _, _, _, by unfold St.step; rw [if_pos hf]; exact D4⟩, hB.trans (M5.out.trans D5).1.1⟩
                  exact AllReadyIn.nil
                exact AllReadyIn.nil
              exact AllReadyIn.nil
            exact AllReadyIn.nil
          exact AllReadyIn.nil
        refine AllReadyIn.cons (o := { dst := some 29, op := Op.buildSlice 22 1 #[(0, Operand.tmp 28)], type := 22, pos := "frame.go:75", after := #[{ on := 1, ground := Ground.data }], guard := none }) rfl (fun K0 hK0 => ?_) ?_
        · go_simp
          refine hK0 _ _ ?_
          clear hK0 K0
          (try simp only [Act.put, List.setIfInBounds_toArray, List.set_cons_zero, List.set_cons_succ])
          have J6 := I5.out.alloc (Obj.cells #[(Value.slice a4 (s.cur.length + x.n) cp4)] 24)
          have c0 := J6.l.cell
          have c4 := J6.n.cell
          have R6 := hide J6.rows
          have C6 := (cell_new_l W5 (Value.slice a4 (s.cur.length + x.n) cp4) 24).1
          have Z6 : w.heap.size + 1 + 1 + 1 + 1 ≤ (W5.alloc (Obj.cells #[(Value.slice a4 (s.cur.length + x.n) cp4)] 24)).heap.size := J6.g.lt
          clear J6
          refine wpAnyIn_ready (rs := [0, 4]) (by kernel_rfl) (by simp) ?_
          refine AllReadyIn.cons (o := { dst := some 27, op := Op.load 22 (Operand.tmp 7), type := 22, pos := "frame.go:75", after := #[], guard := none }) rfl (fun K0 hK0 => ?_) ?_
          · go_simp
            refine hK0 _ _ ?_
            clear hK0 K0
            (try simp only [Act.put, List.setIfInBounds_toArray, List.set_cons_zero, List.set_cons_succ])
            refine wpAnyIn_ready (rs := [3, 4]) (by kernel_rfl) (by simp) ?_
            refine AllReadyIn.cons (o := { dst := some 30, op := Op.call { callee := Callee.builtin Builtin.append, args := #[Operand.tmp 27, Operand.tmp 29], argTypes := #[22, 22] }, type := 22, pos := "frame.go:75", after := #[{ on := 0, ground := Ground.data }, { on := 2, ground := Ground.data }], guard := none }) rfl (fun K0 hK0 => ?_) ?_
            · refine if_wanted rfl ?_
              refine opIn_app1 (fun _ => trivial) (.tmp 27) (.tmp 29) rfl (w.heap.size + 1 + 1 + 1 + 1) vl s.recs.length vs rfl R6.out W5.heap.size 1 (Value.slice a4 (s.cur.length + x.n) cp4) rfl C6 rfl hrb Z6 ?_
              intro vl2 W6 O6 G6
              obtain ⟨D1, D2, D3, D4, D5, D6⟩ := Inv.ended (sn := (s.seen : Int) + 1) (by simp) I5.out O6 G6
              obtain ⟨al, cl, el⟩ := slice_of_owns O6
              subst el
              have d0 := D1.cell
              have d1 := D1.frozen
              have d2 := D2.cell
              have d3 := D2.frozen
              have d4 := D3.cell
              have d5 := D3.frozen
              have d6 := D6.cell
              have d7 := (D6.other (show w.heap.size + 1 + 1 ≠ w.heap.size by omega) (Value.slice al (s.recs.length + 1) cl)).cell
              refine hK0 _ _ ?_
              clear hK0 K0
              (try simp only [Act.put, List.setIfInBounds_toArray, List.set_cons_zero, List.set_cons_succ])
              refine wpAnyIn_ready (rs := [4, 5]) (by kernel_rfl) (by simp) ?_
              refine AllReadyIn.cons (o := { dst := some 31, op := Op.load 3 (Operand.tmp 9), type := 3, pos := "frame.go:75", after := #[], guard := none }) rfl (fun K0 hK0 => ?_) ?_
              · go_simp
                refine hK0 _ _ ?_
                clear hK0 K0
                (try simp only [Act.put, List.setIfInBounds_toArray, List.set_cons_zero, List.set_cons_succ])
                refine wpAnyIn_ready (rs := [5]) (by kernel_rfl) (by simp) ?_
                refine AllReadyIn.cons (o := { dst := none, op := Op.store 22 (Operand.tmp 7) (Operand.tmp 30), type := 0, pos := "frame.go:75", after := #[{ on := 3, ground := Ground.data }, { on := 3, ground := Ground.chain }, { on := 0, ground := Ground.phase }, { on := 1, ground := Ground.phase }, { on := 2, ground := Ground.phase }, { on := 3, ground := Ground.phase }, { on := 4, ground := Ground.textOnly Departure.inlinedCapture }], guard := none }) rfl (fun K0 hK0 => ?_) ?_
                · go_simp
                  refine hK0 _ _ ?_
                  clear hK0 K0
                  (try simp only [Act.put, List.setIfInBounds_toArray, List.set_cons_zero, List.set_cons_succ])
                  refine wpAnyIn_ready (rs := [6]) (by kernel_rfl) (by simp) ?_
                  refine AllReadyIn.cons (o := { dst := none, op := Op.store 3 (Operand.tmp 10) (Operand.tmp 31), type := 0, pos := "frame.go:75", after := #[{ on := 4, ground := Ground.data }, { on := 5, ground := Ground.chain }, { on := 0, ground := Ground.phase }, { on := 1, ground := Ground.phase }, { on := 2, ground := Ground.phase }, { on := 3, ground := Ground.phase }, { on := 4, ground := Ground.phase }, { on := 5, ground := Ground.phase }], guard := none }) rfl (fun K0 hK0 => ?_) ?_
                  · go_simp
                    refine hK0 _ _ ?_
                    clear hK0 K0
                    (try simp only [Act.put, List.setIfInBounds_toArray, List.set_cons_zero, List.set_cons_succ])
                    refine wpAnyIn_done (by kernel_rfl) ?_ _
                    gi_wp2
                    (try simp only [Exit.inBlock])
                    exact ⟨(M5.out.trans D5).2.from _, (M5.out.trans D5).1, ⟨_, _, _, _, by unfold St.step; rw [if_pos hf]; exact D4⟩, hB.trans (M5.out.trans D5).1.1⟩
                  exact AllReadyIn.nil
                exact AllReadyIn.nil
              refine AllReadyIn.cons (o := { dst := none, op := Op.store 22 (Operand.tmp 7) (Operand.tmp 30), type := 0, pos := "frame.go:75", after := #[{ on := 3, ground := Ground.data }, { on := 3, ground := Ground.chain }, { on := 0, ground := Ground.phase }, { on := 1, ground := Ground.phase }, { on := 2, ground := Ground.phase }, { on := 3, ground := Ground.phase }, { on := 4, ground := Ground.textOnly Departure.inlinedCapture }], guard := none }) rfl (fun K0 hK0 => ?_) ?_
              · go_simp
                refine hK0 _ _ ?_
                clear hK0 K0
                (try simp only [Act.put, List.setIfInBounds_toArray, List.set_cons_zero, List.set_cons_succ])
                refine wpAnyIn_ready (rs := [4]) (by kernel_rfl) (by simp) ?_
                refine AllReadyIn.cons (o := { dst := some 31, op := Op.load 3 (Operand.tmp 9), type := 3, pos := "frame.go:75", after := #[], guard := none }) rfl (fun K0 hK0 => ?_) ?_
                · go_simp
                  refine hK0 _ _ ?_
                  clear hK0 K0
                  (try simp only [Act.put, List.setIfInBounds_toArray, List.set_cons_zero, List.set_cons_succ])
                  refine wpAnyIn_ready (rs := [6]) (by kernel_rfl) (by simp) ?_
                  refine AllReadyIn.cons (o := { dst := none, op := Op.store 3 (Operand.tmp 10) (Operand.tmp 31), type := 0, pos := "frame.go:75", after := #[{ on := 4, ground := Ground.data }, { on := 5, ground := Ground.chain }, { on := 0, ground := Ground.phase }, { on := 1, ground := Ground.phase }, { on := 2, ground := Ground.phase }, { on := 3, ground := Ground.phase }, { on := 4, ground := Ground.phase }, { on := 5, ground := Ground.phase }], guard := none }) rfl (fun K0 hK0 => ?_) ?_
                  · go_simp
                    refine hK0 _ _ ?_
                    clear hK0 K0
                    (try simp only [Act.put, List.setIfInBounds_toArray, List.set_cons_zero, List.set_cons_succ])
                    refine wpAnyIn_done (by kernel_rfl) ?_ _
                    gi_wp2
                    (try simp only [Exit.inBlock])
                    exact ⟨(M5.out.trans D5).2.from _, (M5.out.trans D5).1, ⟨_, _, _, _, by unfold St.step; rw [if_pos hf]; exact D4⟩, hB.trans (M5.out.trans D5).1.1⟩
                  exact AllReadyIn.nil
                exact AllReadyIn.nil
              exact AllReadyIn.nil
            refine AllReadyIn.cons (o := { dst := some 31, op := Op.load 3 (Operand.tmp 9), type := 3, pos := "frame.go:75", after := #[], guard := none }) rfl (fun K0 hK0 => ?_) ?_
            · go_simp
              refine hK0 _ _ ?_
              clear hK0 K0
              (try simp only [Act.put, List.setIfInBounds_toArray, List.set_cons_zero, List.set_cons_succ])
              refine wpAnyIn_ready (rs := [3]) (by kernel_rfl) (by simp) ?_
              refine AllReadyIn.cons (o := { dst := some 30, op := Op.call { callee := Callee.builtin Builtin.append, args := #[Operand.tmp 27, Operand.tmp 29], argTypes := #[22, 22] }, type := 22, pos := "frame.go:75", after := #[{ on := 0, ground := Ground.data }, { on := 2, ground := Ground.data }], guard := none }) rfl (fun K0 hK0 => ?_) ?_
              · refine if_wanted rfl ?_
                refine opIn_app1 (fun _ => trivial) (.tmp 27) (.tmp 29) rfl (w.heap.size + 1 + 1 + 1 + 1) vl s.recs.length vs rfl R6.out W5.heap.size 1 (Value.slice a4 (s.cur.length + x.n) cp4) rfl C6 rfl hrb Z6 ?_
                intro vl2 W6 O6 G6
                obtain ⟨D1, D2, D3, D4, D5, D6⟩ := Inv.ended (sn := (s.seen : Int) + 1) (by simp) I5.out O6 G6
                obtain ⟨al, cl, el⟩ := slice_of_owns O6
                subst el
                have d0 := D1.cell
                have d1 := D1.frozen
                have d2 := D2.cell
                have d3 := D2.frozen
                have d4 := D3.cell
                have d5 := D3.frozen
                have d6 := D6.cell
                have d7 := (D6.other (show w.heap.size + 1 + 1 ≠ w.heap.size by omega) (Value.slice al (s.recs.length + 1) cl)).cell
                refine hK0 _ _ ?_
                clear hK0 K0
                (try simp only [Act.put, List.setIfInBounds_toArray, List.set_cons_zero, List.set_cons_succ])
                refine wpAnyIn_ready (rs := [5]) (by kernel_rfl) (by simp) ?_
                refine AllReadyIn.cons (o := { dst := none, op := Op.store 22 (Operand.tmp 7) (Operand.tmp 30), type := 0, pos := "frame.go:75", after := #[{ on := 3, ground := Ground.data }, { on := 3, ground := Ground.chain }, { on := 0, ground := Ground.phase }, { on := 1, ground := Ground.phase }, { on := 2, ground := Ground.phase }, { on := 3, ground := Ground.phase }, { on := 4, ground := Ground.textOnly Departure.inlinedCapture }], guard := none }) rfl (fun K0 hK0 => ?_) ?_
                · go_simp
                  refine hK0 _ _ ?_
                  clear hK0 K0
                  (try simp only [Act.put, List.setIfInBounds_toArray, List.set_cons_zero, List.set_cons_succ])
                  refine wpAnyIn_ready (rs := [6]) (by kernel_rfl) (by simp) ?_
                  refine AllReadyIn.cons (o := { dst := none, op := Op.store 3 (Operand.tmp 10) (Operand.tmp 31), type := 0, pos := "frame.go:75", after := #[{ on := 4, ground := Ground.data }, { on := 5, ground := Ground.chain }, { on := 0, ground := Ground.phase }, { on := 1, ground := Ground.phase }, { on := 2, ground := Ground.phase }, { on := 3, ground := Ground.phase }, { on := 4, ground := Ground.phase }, { on := 5, ground := Ground.phase }], guard := none }) rfl (fun K0 hK0 => ?_) ?_
                  · go_simp
                    refine hK0 _ _ ?_
                    clear hK0 K0
                    (try simp only [Act.put, List.setIfInBounds_toArray, List.set_cons_zero, List.set_cons_succ])
                    refine wpAnyIn_done (by kernel_rfl) ?_ _
                    gi_wp2
                    (try simp only [Exit.inBlock])
                    exact ⟨(M5.out.trans D5).2.from _, (M5.out.trans D5).1, ⟨_, _, _, _, by unfold St.step; rw [if_pos hf]; exact D4⟩, hB.trans (M5.out.trans D5).1.1⟩
                  exact AllReadyIn.nil
                exact AllReadyIn.nil
              exact AllReadyIn.nil
            exact AllReadyIn.nil
          refine AllReadyIn.cons (o := { dst := some 31, op := Op.load 3 (Operand.tmp 9), type := 3, pos := "frame.go:75", after := #[], guard := none }) rfl (fun K0 hK0 => ?_) ?_
          · go_simp
            refine hK0 _ _ ?_
            clear hK0 K0
            (try simp only [Act.put, List.setIfInBounds_toArray, List.set_cons_zero, List.set_cons_succ])
            refine wpAnyIn_ready (rs := [0]) (by kernel_rfl) (by simp) ?_
            refine AllReadyIn.cons (o := { dst := some 27, op := Op.load 22 (Operand.tmp 7), type := 22, pos := "frame.go:75", after := #[], guard := none }) rfl (fun K0 hK0 => ?_) ?_
            · go_simp
              refine hK0 _ _ ?_
              clear hK0 K0
              (try simp only [Act.put, List.setIfInBounds_toArray, List.set_cons_zero, List.set_cons_succ])
              refine wpAnyIn_ready (rs := [3]) (by kernel_rfl) (by simp) ?_
              refine AllReadyIn.cons (o := { dst := some 30, op := Op.call { callee := Callee.builtin Builtin.append, args := #[Operand.tmp 27, Operand.tmp 29], argTypes := #[22, 22] }, type := 22, pos := "frame.go:75", after := #[{ on := 0, ground := Ground.data }, { on := 2, ground := Ground.data }], guard := none }) rfl (fun K0 hK0 => ?_) ?_
              · refine if_wanted rfl ?_
                refine opIn_app1 (fun _ => trivial) (.tmp 27) (.tmp 29) rfl (w.heap.size + 1 + 1 + 1 + 1) vl s.recs.length vs rfl R6.out W5.heap.size 1 (Value.slice a4 (s.cur.length + x.n) cp4) rfl C6 rfl hrb Z6 ?_
                intro vl2 W6 O6 G6
                obtain ⟨D1, D2, D3, D4, D5, D6⟩ := Inv.ended (sn := (s.seen : Int) + 1) (by simp) I5.out O6 G6
                obtain ⟨al, cl, el⟩ := slice_of_owns O6
                subst el
                have d0 := D1.cell
                have d1 := D1.frozen
                have d2 := D2.cell
                have d3 := D2.frozen
                have d4 := D3.cell
                have d5 := D3.frozen
                have d6 := D6.cell
                have d7 := (D6.other (show w.heap.size + 1 + 1 ≠ w.heap.size by omega) (Value.slice al (s.recs.length + 1) cl)).cell
                refine hK0 _ _ ?_
                clear hK0 K0
                (try simp only [Act.put, List.setIfInBounds_toArray, List.set_cons_zero, List.set_cons_succ])
                refine wpAnyIn_ready (rs := [5]) (by kernel_rfl) (by simp) ?_
                refine AllReadyIn.cons (o := { dst := none, op := Op.store 22 (Operand.tmp 7) (Operand.tmp 30), type := 0, pos := "frame.go:75", after := #[{ on := 3, ground := Ground.data }, { on := 3, ground := Ground.chain }, { on := 0, ground := Ground.phase }, { on := 1, ground := Ground.phase }, { on := 2, ground := Ground.phase }, { on := 3, ground := Ground.phase }, { on := 4, ground := Ground.textOnly Departure.inlinedCapture }], guard := none }) rfl (fun K0 hK0 => ?_) ?_
                · go_simp
                  refine hK0 _ _ ?_
                  clear hK0 K0
                  (try simp only [Act.put, List.setIfInBounds_toArray, List.set_cons_zero, List.set_cons_succ])
                  refine wpAnyIn_ready (rs := [6]) (by kernel_rfl) (by simp) ?_
                  refine AllReadyIn.cons (o := { dst := none, op := Op.store 3 (Operand.tmp 10) (Operand.tmp 31), type := 0, pos := "frame.go:75", after := #[{ on := 4, ground := Ground.data }, { on := 5, ground := Ground.chain }, { on := 0, ground := Ground.phase }, { on := 1, ground := Ground.phase }, { on := 2, ground := Ground.phase }, { on := 3, ground := Ground.phase }, { on := 4, ground := Ground.phase }, { on := 5, ground := Ground.phase }], guard := none }) rfl (fun K0 hK0 => ?_) ?_
                  · go_simp
                    refine hK0 _ _ ?_
                    clear hK0 K0
                    (try simp only [Act.put, List.setIfInBounds_toArray, List.set_cons_zero, List.set_cons_succ])
                    refine wpAnyIn_done (by kernel_rfl) ?_ _
                    gi_wp2
                    (try simp only [Exit.inBlock])
                    exact ⟨(M5.out.trans D5).2.from _, (M5.out.trans D5).1, ⟨_, _, _, _, by unfold St.step; rw [if_pos hf]; exact D4⟩, hB.trans (M5.out.trans D5).1.1⟩
                  exact AllReadyIn.nil
                exact AllReadyIn.nil
              exact AllReadyIn.nil
            exact AllReadyIn.nil
          exact AllReadyIn.nil
        refine AllReadyIn.cons (o := { dst := some 31, op := Op.load 3 (Operand.tmp 9), type := 3, pos := "frame.go:75", after := #[], guard := none }) rfl (fun K0 hK0 => ?_) ?_
        · go_simp
          refine hK0 _ _ ?_
          clear hK0 K0
          (try simp only [Act.put, List.setIfInBounds_toArray, List.set_cons_zero, List.set_cons_succ])
          refine wpAnyIn_ready (rs := [0, 2]) (by kernel_rfl) (by simp) ?_
          refine AllReadyIn.cons (o := { dst := some 27, op := Op.load 22 (Operand.tmp 7), type := 22, pos := "frame.go:75", after := #[], guard := none }) rfl (fun K0 hK0 => ?_) ?_
          · go_simp
            refine hK0 _ _ ?_
            clear hK0 K0
            (try simp only [Act.put, List.setIfInBounds_toArray, List.set_cons_zero, List.set_cons_succ])
            refine wpAnyIn_ready (rs := [2]) (by kernel_rfl) (by simp) ?_
            refine AllReadyIn.cons (o := { dst := some 29, op := Op.buildSlice 22 1 #[(0, Operand.tmp 28)], type := 22, pos := "frame.go:75", after := #[{ on := 1, ground := Ground.data }], guard := none }) rfl (fun K0 hK0 => ?_) ?_
            · go_simp
              refine hK0 _ _ ?_
              clear hK0 K0
              (try simp only [Act.put, List.setIfInBounds_toArray, List.set_cons_zero, List.set_cons_succ])
              have J6 := I5.out.alloc (Obj.cells #[(Value.slice a4 (s.cur.length + x.n) cp4)] 24)
              have c0 := J6.l.cell
              have c4 := J6.n.cell
              have R6 := hide J6.rows
              have C6 := (cell_new_l W5 (Value.slice a4 (s.cur.length + x.n) cp4) 24).1
              have Z6 : w.heap.size + 1 + 1 + 1 + 1 ≤ (W5.alloc (Obj.cells #[(Value.slice a4 (s.cur.length + x.n) cp4)] 24)).heap.size := J6.g.lt
              clear J6
              refine wpAnyIn_ready (rs := [3]) (by kernel_rfl) (by simp) ?_
              refine AllReadyIn.cons (o := { dst := some 30, op := Op.call { callee := Callee.builtin Builtin.append, args := #[Operand.tmp 27, Operand.tmp 29], argTypes := #[22, 22] }, type := 22, pos := "frame.go:75", after := #[{ on := 0, ground := Ground.data }, { on := 2, ground := Ground.data }], guard := none }) rfl (fun K0 hK0 => ?_) ?_
              · refine if_wanted rfl ?_
                refine opIn_app1 (fun _ => trivial) (.tmp 27) (.tmp 29) rfl (w.heap.size + 1 + 1 + 1 + 1) vl s.recs.length vs rfl R6.out W5.heap.size 1 (Value.slice a4 (s.cur.length + x.n) cp4) rfl C6 rfl hrb Z6 ?_
                intro vl2 W6 O6 G6
                obtain ⟨D1, D2, D3, D4, D5, D6⟩ := Inv.ended (sn := (s.seen : Int) + 1) (by simp) I5.out O6 G6
                obtain ⟨al, cl, el⟩ := slice_of_owns O6
                subst el
                have d0 := D1.cell
                have d1 := D1.frozen
                have d2 := D2.cell
                have d3 := D2.frozen
                have d4 := D3.cell
                have d5 := D3.frozen
                have d6 := D6.cell
                have d7 := (D6.other (show w.heap.size + 1 + 1 ≠ w.heap.size by omega) (Value.slice al (s.recs.length + 1) cl)).cell
                refine hK0 _ _ ?_
                clear hK0 K0
                (try simp only [Act.put, List.setIfInBounds_toArray, List.set_cons_zero, List.set_cons_succ])
                refine wpAnyIn_ready (rs := [5]) (by kernel_rfl) (by simp) ?_
                refine AllReadyIn.cons (o := { dst := none, op := Op.store 22 (Operand.tmp 7) (Operand.tmp 30), type := 0, pos := "frame.go:75", after := #[{ on := 3, ground := Ground.data }, { on := 3, ground := Ground.chain }, { on := 0, ground := Ground.phase }, { on := 1, ground := Ground.phase }, { on := 2, ground := Ground.phase }, { on := 3, ground := Ground.phase }, { on := 4, ground := Ground.textOnly Departure.inlinedCapture }], guard := none }) rfl (fun K0 hK0 => ?_) ?_
                · go_simp
                  refine hK0 _ _ ?_
                  clear hK0 K0
                  (try simp only [Act.put, List.setIfInBounds_toArray, List.set_cons_zero, List.set_cons_succ])
                  refine wpAnyIn_ready (rs := [6]) (by kernel_rfl) (by simp) ?_
                  refine AllReadyIn.cons (o := { dst := none, op := Op.store 3 (Operand.tmp 10) (Operand.tmp 31), type := 0, pos := "frame.go:75", after := #[{ on := 4, ground := Ground.data }, { on := 5, ground := Ground.chain }, { on := 0, ground := Ground.phase }, { on := 1, ground := Ground.phase }, { on := 2, ground := Ground.phase }, { on := 3, ground := Ground.phase }, { on := 4, ground := Ground.phase }, { on := 5, ground := Ground.phase }], guard := none }) rfl (fun K0 hK0 => ?_) ?_
                  · go_simp
                    refine hK0 _ _ ?_
                    clear hK0 K0
                    (try simp only [Act.put, List.setIfInBounds_toArray, List.set_cons_zero, List.set_cons_succ])
                    refine wpAnyIn_done (by kernel_rfl) ?_ _
                    gi_wp2
                    (try simp only [Exit.inBlock])
                    exact ⟨(M5.out.trans D5).2.from _, (M5.out.trans D5).1, ⟨_, _, _, _, by unfold St.step; rw [if_pos hf]; exact D4⟩, hB.trans (M5.out.trans D5).1.1⟩
                  exact AllReadyIn.nil
                exact AllReadyIn.nil
              exact AllReadyIn.nil
            exact AllReadyIn.nil
          refine AllReadyIn.cons (o := { dst := some 29, op := Op.buildSlice 22 1 #[(0, Operand.tmp 28)], type := 22, pos := "frame.go:75", after := #[{ on := 1, ground := Ground.data }], guard := none }) rfl (fun K0 hK0 => ?_) ?_
          · go_simp
            refine hK0 _ _ ?_
            clear hK0 K0
            (try simp only [Act.put, List.setIfInBounds_toArray, List.set_cons_zero, List.set_cons_succ])
            have J6 := I5.out.alloc (Obj.cells #[(Value.slice a4 (s.cur.length + x.n) cp4)] 24)
            have c0 := J6.l.cell
            have c4 := J6.n.cell
            have R6 := hide J6.rows
            have C6 := (cell_new_l W5 (Value.slice a4 (s.cur.length + x.n) cp4) 24).1
            have Z6 : w.heap.size + 1 + 1 + 1 + 1 ≤ (W5.alloc (Obj.cells #[(Value.slice a4 (s.cur.length + x.n) cp4)] 24)).heap.size := J6.g.lt
            clear J6
            refine wpAnyIn_ready (rs := [0]) (by kernel_rfl) (by simp) ?_
            refine AllReadyIn.cons (o := { dst := some 27, op := Op.load 22 (Operand.tmp 7), type := 22, pos := "frame.go:75", after := #[], guard := none }) rfl (fun K0 hK0 => ?_) ?_
            · go_simp
              refine hK0 _ _ ?_
              clear hK0 K0
              (try simp only [Act.put, List.setIfInBounds_toArray, List.set_cons_zero, List.set_cons_succ])
              refine wpAnyIn_ready (rs := [3]) (by kernel_rfl) (by simp) ?_
              refine AllReadyIn.cons (o := { dst := some 30, op := Op.call { callee := Callee.builtin Builtin.append, args := #[Operand.tmp 27, Operand.tmp 29], argTypes := #[22, 22] }, type := 22, pos := "frame.go:75", after := #[{ on := 0, ground := Ground.data }, { on := 2, ground := Ground.data }], guard := none }) rfl (fun K0 hK0 => ?_) ?_
              · refine if_wanted rfl ?_
                refine opIn_app1 (fun _ => trivial) (.tmp 27) (.tmp 29) rfl (w.heap.size + 1 + 1 + 1 + 1) vl s.recs.length vs rfl R6.out W5.heap.size 1 (Value.slice a4 (s.cur.length + x.n) cp4) rfl C6 rfl hrb Z6 ?_
                intro vl2 W6 O6 G6
                obtain ⟨D1, D2, D3, D4, D5, D6⟩ := Inv.ended (sn := (s.seen : Int) + 1) (by simp) I5.out O6 G6
                obtain ⟨al, cl, el⟩ := slice_of_owns O6
                subst el
                have d0 := D1.cell
                have d1 := D1.frozen
                have d2 := D2.cell
                have d3 := D2.frozen
                have d4 := D3.cell
                have d5 := D3.frozen
                have d6 := D6.cell
                have d7 := (D6.other (show w.heap.size + 1 + 1 ≠ w.heap.size by omega) (Value.slice al (s.recs.length + 1) cl)).cell
                refine hK0 _ _ ?_
                clear hK0 K0
                (try simp only [Act.put, List.setIfInBounds_toArray, List.set_cons_zero, List.set_cons_succ])
                refine wpAnyIn_ready (rs := [5]) (by kernel_rfl) (by simp) ?_
                refine AllReadyIn.cons (o := { dst := none, op := Op.store 22 (Operand.tmp 7) (Operand.tmp 30), type := 0, pos := "frame.go:75", after := #[{ on := 3, ground := Ground.data }, { on := 3, ground := Ground.chain }, { on := 0, ground := Ground.phase }, { on := 1, ground := Ground.phase }, { on := 2, ground := Ground.phase }, { on := 3, ground := Ground.phase }, { on := 4, ground := Ground.textOnly Departure.inlinedCapture }], guard := none }) rfl (fun K0 hK0 => ?_) ?_
                · go_simp
                  refine hK0 _ _ ?_
                  clear hK0 K0
                  (try simp only [Act.put, List.setIfInBounds_toArray, List.set_cons_zero, List.set_cons_succ])
                  refine wpAnyIn_ready (rs := [6]) (by kernel_rfl) (by simp) ?_
                  refine AllReadyIn.cons (o := { dst := none, op := Op.store 3 (Operand.tmp 10) (Operand.tmp 31), type := 0, pos := "frame.go:75", after := #[{ on := 4, ground := Ground.data }, { on := 5, ground := Ground.chain }, { on := 0, ground := Ground.phase }, { on := 1, ground := Ground.phase }, { on := 2, ground := Ground.phase }, { on := 3, ground := Ground.phase }, { on := 4, ground := Ground.phase }, { on := 5, ground := Ground.phase }], guard := none }) rfl (fun K0 hK0 => ?_) ?_
                  · go_simp
                    refine hK0 _ _ ?_
                    clear hK0 K0
                    (try simp only [Act.put, List.setIfInBounds_toArray, List.set_cons_zero, List.set_cons_succ])
                    refine wpAnyIn_done (by kernel_rfl) ?_ _
                    gi_wp2
                    (try simp only [Exit.inBlock])
                    exact ⟨(M5.out.trans D5).2.from _, (M5.out.trans D5).1, ⟨_, _, _, _, by unfold St.step; rw [if_pos hf]; exact D4⟩, hB.trans (M5.out.trans D5).1.1⟩
                  exact AllReadyIn.nil
                exact AllReadyIn.nil
              exact AllReadyIn.nil
            exact AllReadyIn.nil
          exact AllReadyIn.nil
        exact AllReadyIn.nil
      refine AllReadyIn.cons (o := { dst := some 31, op := Op.load 3 (Operand.tmp 9), type := 3, pos := "frame.go:75", after := #[], guard := none }) rfl (fun K0 hK0 => ?_) ?_
      · go_simp
        refine hK0 _ _ ?_
        clear hK0 K0
        (try simp only [Act.put, List.setIfInBounds_toArray, List.set_cons_zero, List.set_cons_succ])
        refine wpAnyIn_ready (rs := [0, 1]) (by kernel_rfl) (by simp) ?_
        refine AllReadyIn.cons (o := { dst := some 27, op := Op.load 22 (Operand.tmp 7), type := 22, pos := "frame.go:75", after := #[], guard := none }) rfl (fun K0 hK0 => ?_) ?_
        · go_simp
          refine hK0 _ _ ?_
          clear hK0 K0
          (try simp only [Act.put, List.setIfInBounds_toArray, List.set_cons_zero, List.set_cons_succ])
          refine wpAnyIn_ready (rs := [1]) (by kernel_rfl) (by simp) ?_
          refine AllReadyIn.cons (o := { dst := some 28, op := Op.load 24 (Operand.tmp 8), type := 24, pos := "frame.go:75", after := #[], guard := none }) rfl (fun K0 hK0 => ?_) ?_
          · go_simp
            refine hK0 _ _ ?_
            clear hK0 K0
            (try simp only [Act.put, List.setIfInBounds_toArray, List.set_cons_zero, List.set_cons_succ])
            refine wpAnyIn_ready (rs := [2]) (by kernel_rfl) (by simp) ?_
            refine AllReadyIn.cons (o := { dst := some 29, op := Op.buildSlice 22 1 #[(0, Operand.tmp 28)], type := 22, pos := "frame.go:75", after := #[{ on := 1, ground := Ground.data }], guard := none }) rfl (fun K0 hK0 => ?_) ?_
            · go_simp
              refine hK0 _ _ ?_
              clear hK0 K0
              (try simp only [Act.put, List.setIfInBounds_toArray, List.set_cons_zero, List.set_cons_succ])
              have J6 := I5.out.alloc (Obj.cells #[(Value.slice a4 (s.cur.length + x.n) cp4)] 24)
              have c0 := J6.l.cell
              have c4 := J6.n.cell
              have R6 := hide J6.rows
              have C6 := (cell_new_l W5 (Value.slice a4 (s.cur.length + x.n) cp4) 24).1
              have Z6 : w.heap.size + 1 + 1 + 1 + 1 ≤ (W5.alloc (Obj.cells #[(Value.slice a4 (s.cur.length + x.n) cp4)] 24)).heap.size := J6.g.lt
              clear J6
              refine wpAnyIn_ready (rs := [3]) (by kernel_rfl) (by simp) ?_
              refine AllReadyIn.cons (o := { dst := some 30, op := Op.call { callee := Callee.builtin Builtin.append, args := #[Operand.tmp 27, Operand.tmp 29], argTypes := #[22, 22] }, type := 22, pos := "frame.go:75", after := #[{ on := 0, ground := Ground.data }, { on := 2, ground := Ground.data }], guard := none }) rfl (fun K0 hK0 => ?_) ?_
              · refine if_wanted rfl ?_
                refine opIn_app1 (fun _ => trivial) (.tmp 27) (.tmp 29) rfl (w.heap.size + 1 + 1 + 1 + 1) vl s.recs.length vs rfl R6.out W5.heap.size 1 (Value.slice a4 (s.cur.length + x.n) cp4) rfl C6 rfl hrb Z6 ?_
                intro vl2 W6 O6 G6
                obtain ⟨D1, D2, D3, D4, D5, D6⟩ := Inv.ended (sn := (s.seen : Int) + 1) (by simp) I5.out O6 G6
                obtain ⟨al, cl, el⟩ := slice_of_owns O6
                subst el
                have d0 := D1.cell
                have d1 := D1.frozen
                have d2 := D2.cell
                have d3 := D2.frozen
                have d4 := D3.cell
                have d5 := D3.frozen
                have d6 := D6.cell
                have d7 := (D6.other (show w.heap.size + 1 + 1 ≠ w.heap.size by omega) (Value.slice al (s.recs.length + 1) cl)).cell
                refine hK0 _ _ ?_
                clear hK0 K0
                (try simp only [Act.put, List.setIfInBounds_toArray, List.set_cons_zero, List.set_cons_succ])
                refine wpAnyIn_ready (rs := [5]) (by kernel_rfl) (by simp) ?_
                refine AllReadyIn.cons (o := { dst := none, op := Op.store 22 (Operand.tmp 7) (Operand.tmp 30), type := 0, pos := "frame.go:75", after := #[{ on := 3, ground := Ground.data }, { on := 3, ground := Ground.chain }, { on := 0, ground := Ground.phase }, { on := 1, ground := Ground.phase }, { on := 2, ground := Ground.phase }, { on := 3, ground := Ground.phase }, { on := 4, ground := Ground.textOnly Departure.inlinedCapture }], guard := none }) rfl (fun K0 hK0 => ?_) ?_
                · go_simp
                  refine hK0 _ _ ?_
                  clear hK0 K0
                  (try simp only [Act.put, List.setIfInBounds_toArray, List.set_cons_zero, List.set_cons_succ])
                  refine wpAnyIn_ready (rs := [6]) (by kernel_rfl) (by simp) ?_
                  refine AllReadyIn.cons (o := { dst := none, op := Op.store 3 (Operand.tmp 10) (Operand.tmp 31), type := 0, pos := "frame.go:75", after := #[{ on := 4, ground := Ground.data }, { on := 5, ground := Ground.chain }, { on := 0, ground := Ground.phase }, { on := 1, ground := Ground.phase }, { on := 2, ground := Ground.phase }, { on := 3, ground := Ground.phase }, { on := 4, ground := Ground.phase }, { on := 5, ground := Ground.phase }], guard := none }) rfl (fun K0 hK0 => ?_) ?_
                  · go_simp
                    refine hK0 _ _ ?_
                    clear hK0 K0
                    (try simp only [Act.put, List.setIfInBounds_toArray, List.set_cons_zero, List.set_cons_succ])
                    refine wpAnyIn_done (by kernel_rfl) ?_ _
                    gi_wp2
                    (try simp only [Exit.inBlock])
                    exact ⟨(M5.out.trans D5).2.from _, (M5.out.trans D5).1, ⟨_, _, _, _, by unfold St.step; rw [if_pos hf]; exact D4⟩, hB.trans (M5.out.trans D5).1.1⟩
                  exact AllReadyIn.nil
                exact AllReadyIn.nil
              exact AllReadyIn.nil
            exact AllReadyIn.nil
          exact AllReadyIn.nil
        refine AllReadyIn.cons (o := { dst := some 28, op := Op.load 24 (Operand.tmp 8), type := 24, pos := "frame.go:75", after := #[], guard := none }) rfl (fun K0 hK0 => ?_) ?_
        · go_simp
          refine hK0 _ _ ?_
          clear hK0 K0
          (try simp only [Act.put, List.setIfInBounds_toArray, List.set_cons_zero, List.set_cons_succ])
          refine wpAnyIn_ready (rs := [0, 2]) (by kernel_rfl) (by simp) ?_
          refine AllReadyIn.cons (o := { dst := some 27, op := Op.load 22 (Operand.tmp 7), type := 22, pos := "frame.go:75", after := #[], guard := none }) rfl (fun K0 hK0 => ?_) ?_
          · go_simp
            refine hK0 _ _ ?_
            clear hK0 K0
            (try simp only [Act.put, List.setIfInBounds_toArray, List.set_cons_zero, List.set_cons_succ])
            refine wpAnyIn_ready (rs := [2]) (by kernel_rfl) (by simp) ?_
            refine AllReadyIn.cons (o := { dst := some 29, op := Op.buildSlice 22 1 #[(0, Operand.tmp 28)], type := 22, pos := "frame.go:75", after := #[{ on := 1, ground := Ground.data }], guard := none }) rfl (fun K0 hK0 => ?_) ?_
            · go_simp
              refine hK0 _ _ ?_
              clear hK0 K0
              (try simp only [Act.put, List.setIfInBounds_toArray, List.set_cons_zero, List.set_cons_succ])
              have J6 := I5.out.alloc (Obj.cells #[(Value.slice a4 (s.cur.length + x.n) cp4)] 24)
              have c0 := J6.l.cell
              have c4 := J6.n.cell
              have R6 := hide J6.rows
              have C6 := (cell_new_l W5 (Value.slice a4 (s.cur.length + x.n) cp4) 24).1
              have Z6 : w.heap.size + 1 + 1 + 1 + 1 ≤ (W5.alloc (Obj.cells #[(Value.slice a4 (s.cur.length + x.n) cp4)] 24)).heap.size := J6.g.lt
              clear J6
              refine wpAnyIn_ready (rs := [3]) (by kernel_rfl) (by simp) ?_
              refine AllReadyIn.cons (o := { dst := some 30, op := Op.call { callee := Callee.builtin Builtin.append, args := #[Operand.tmp 27, Operand.tmp 29], argTypes := #[22, 22] }, type := 22, pos := "frame.go:75", after := #[{ on := 0, ground := Ground.data }, { on := 2, ground := Ground.data }], guard := none }) rfl (fun K0 hK0 => ?_) ?_
              · refine if_wanted rfl ?_
                refine opIn_app1 (fun _ => trivial) (.tmp 27) (.tmp 29) rfl (w.heap.size + 1 + 1 + 1 + 1) vl s.recs.length vs rfl R6.out W5.heap.size 1 (Value.slice a4 (s.cur.length + x.n) cp4) rfl C6 rfl hrb Z6 ?_
                intro vl2 W6 O6 G6
                obtain ⟨D1, D2, D3, D4, D5, D6⟩ := Inv.ended (sn := (s.seen : Int) + 1) (by simp) I5.out O6 G6
                obtain ⟨al, cl, el⟩ := slice_of_owns O6
                subst el
                have d0 := D1.cell
                have d1 := D1.frozen
                have d2 := D2.cell
                have d3 := D2.frozen
                have d4 := D3.cell
                have d5 := D3.frozen
                have d6 := D6.cell
                have d7 := (D6.other (show w.heap.size + 1 + 1 ≠ w.heap.size by omega) (Value.slice al (s.recs.length + 1) cl)).cell
                refine hK0 _ _ ?_
                clear hK0 K0
                (try simp only [Act.put, List.setIfInBounds_toArray, List.set_cons_zero, List.set_cons_succ])
                refine wpAnyIn_ready (rs := [5]) (by kernel_rfl) (by simp) ?_
                refine AllReadyIn.cons (o := { dst := none, op := Op.store 22 (Operand.tmp 7) (Operand.tmp 30), type := 0, pos := "frame.go:75", after := #[{ on := 3, ground := Ground.data }, { on := 3, ground := Ground.chain }, { on := 0, ground := Ground.phase }, { on := 1, ground := Ground.phase }, { on := 2, ground := Ground.phase }, { on := 3, ground := Ground.phase }, { on := 4, ground := Ground.textOnly Departure.inlinedCapture }], guard := none }) rfl (fun K0 hK0 => ?_) ?_
                · go_simp
                  refine hK0 _ _ ?_
                  clear hK0 K0
                  (try simp only [Act.put, List.setIfInBounds_toArray, List.set_cons_zero, List.set_cons_succ])
                  refine wpAnyIn_ready (rs := [6]) (by kernel_rfl) (by simp) ?_
                  refine AllReadyIn.cons (o := { dst := none, op := Op.store 3 (Operand.tmp 10) (Operand.tmp 31), type := 0, pos := "frame.go:75", after := #[{ on := 4, ground := Ground.data }, { on := 5, ground := Ground.chain }, { on := 0, ground := Ground.phase }, { on := 1, ground := Ground.phase }, { on := 2, ground := Ground.phase }, { on := 3, ground := Ground.phase }, { on := 4, ground := Ground.phase }, { on := 5, ground := Ground.phase }], guard := none }) rfl (fun K0 hK0 => ?_) ?_
                  · go_simp
                    refine hK0 _ _ ?_
                    clear hK0 K0
                    (try simp only [Act.put, List.setIfInBounds_toArray, List.set_cons_zero, List.set_cons_succ])
                    refine wpAnyIn_done (by kernel_rfl) ?_ _
                    gi_wp2
                    (try simp only [Exit.inBlock])
                    exact ⟨(M5.out.trans D5).2.from _, (M5.out.trans D5).1, ⟨_, _, _, _, by unfold St.step; rw [if_pos hf]; exact D4⟩, hB.trans (M5.out.trans D5).1.1⟩
                  exact AllReadyIn.nil
                exact AllReadyIn.nil
              exact AllReadyIn.nil
            exact AllReadyIn.nil
          refine AllReadyIn.cons (o := { dst := some 29, op := Op.buildSlice 22 1 #[(0, Operand.tmp 28)], type := 22, pos := "frame.go:75", after := #[{ on := 1, ground := Ground.data }], guard := none }) rfl (fun K0 hK0 => ?_) ?_
          · go_simp
            refine hK0 _ _ ?_
            clear hK0 K0
            (try simp only [Act.put, List.setIfInBounds_toArray, List.set_cons_zero, List.set_cons_succ])
            have J6 := I5.out.alloc (Obj.cells #[(Value.slice a4 (s.cur.length + x.n) cp4)] 24)
            have c0 := J6.l.cell
            have c4 := J6.n.cell
            have R6 := hide J6.rows
            have C6 := (cell_new_l W5 (Value.slice a4 (s.cur.length + x.n) cp4) 24).1
            have Z6 : w.heap.size + 1 + 1 + 1 + 1 ≤ (W5.alloc (Obj.cells #[(Value.slice a4 (s.cur.length + x.n) cp4)] 24)).heap.size := J6.g.lt
            clear J6
            refine wpAnyIn_ready (rs := [0]) (by kernel_rfl) (by simp) ?_
            refine AllReadyIn.cons (o := { dst := some 27, op := Op.load 22 (Operand.tmp 7), type := 22, pos := "frame.go:75", after := #[], guard := none }) rfl (fun K0 hK0 => ?_) ?_
            · go_simp
              refine hK0 _ _ ?_
              clear hK0 K0
              (try simp only [Act.put, List.setIfInBounds_toArray, List.set_cons_zero, List.set_cons_succ])
              refine wpAnyIn_ready (rs := [3]) (by kernel_rfl) (by simp) ?_
              refine AllReadyIn.cons (o := { dst := some 30, op := Op.call { callee := Callee.builtin Builtin.append, args := #[Operand.tmp 27, Operand.tmp 29], argTypes := #[22, 22] }, type := 22, pos := "frame.go:75", after := #[{ on := 0, ground := Ground.data }, { on := 2, ground := Ground.data }], guard := none }) rfl (fun K0 hK0 => ?_) ?_
              · refine if_wanted rfl ?_
                refine opIn_app1 (fun _ => trivial) (.tmp 27) (.tmp 29) rfl (w.heap.size + 1 + 1 + 1 + 1) vl s.recs.length vs rfl R6.out W5.heap.size 1 (Value.slice a4 (s.cur.length + x.n) cp4) rfl C6 rfl hrb Z6 ?_
                intro vl2 W6 O6 G6
                obtain ⟨D1, D2, D3, D4, D5, D6⟩ := Inv.ended (sn := (s.seen : Int) + 1) (by simp) I5.out O6 G6
                obtain ⟨al, cl, el⟩ := slice_of_owns O6
                subst el
                have d0 := D1.cell
                have d1 := D1.frozen
                have d2 := D2.cell
                have d3 := D2.frozen
                have d4 := D3.cell
                have d5 := D3.frozen
                have d6 := D6.cell
                have d7 := (D6.other (show w.heap.size + 1 + 1 ≠ w.heap.size by omega) (Value.slice al (s.recs.length + 1) cl)).cell
                refine hK0 _ _ ?_
                clear hK0 K0
                (try simp only [Act.put, List.setIfInBounds_toArray, List.set_cons_zero, List.set_cons_succ])
                refine wpAnyIn_ready (rs := [5]) (by kernel_rfl) (by simp) ?_
                refine AllReadyIn.cons (o := { dst := none, op := Op.store 22 (Operand.tmp 7) (Operand.tmp 30), type := 0, pos := "frame.go:75", after := #[{ on := 3, ground := Ground.data }, { on := 3, ground := Ground.chain }, { on := 0, ground := Ground.phase }, { on := 1, ground := Ground.phase }, { on := 2, ground := Ground.phase }, { on := 3, ground := Ground.phase }, { on := 4, ground := Ground.textOnly Departure.inlinedCapture }], guard := none }) rfl (fun K0 hK0 => ?_) ?_
                · go_simp
                  refine hK0 _ _ ?_
                  clear hK0 K0
                  (try simp only [Act.put, List.setIfInBounds_toArray, List.set_cons_zero, List.set_cons_succ])
                  refine wpAnyIn_ready (rs := [6]) (by kernel_rfl) (by simp) ?_
                  refine AllReadyIn.cons (o := { dst := none, op := Op.store 3 (Operand.tmp 10) (Operand.tmp 31), type := 0, pos := "frame.go:75", after := #[{ on := 4, ground := Ground.data }, { on := 5, ground := Ground.chain }, { on := 0, ground := Ground.phase }, { on := 1, ground := Ground.phase }, { on := 2, ground := Ground.phase }, { on := 3, ground := Ground.phase }, { on := 4, ground := Ground.phase }, { on := 5, ground := Ground.phase }], guard := none }) rfl (fun K0 hK0 => ?_) ?_
                  · go_simp
                    refine hK0 _ _ ?_
                    clear hK0 K0
                    (try simp only [Act.put, List.setIfInBounds_toArray, List.set_cons_zero, List.set_cons_succ])
                    refine wpAnyIn_done (by kernel_rfl) ?_ _
                    gi_wp2
                    (try simp only [Exit.inBlock])
                    exact ⟨(M5.out.trans D5).2.from _, (M5.out.trans D5).1, ⟨_, _, _, _, by unfold St.step; rw [if_pos hf]; exact D4⟩, hB.trans (M5.out.trans D5).1.1⟩
                  exact AllReadyIn.nil
                exact AllReadyIn.nil
              exact AllReadyIn.nil
            exact AllReadyIn.nil
          exact AllReadyIn.nil
        exact AllReadyIn.nil
      exact AllReadyIn.nil
    · rw [show decide (2 ≤ x.p.flags) = false from decide_eq_false hf]
      gi_wp2
      (try simp only [Exit.inBlock])
      have I3 := I2.out
      have M3 := M4.out
      exact ⟨M3.2.from _, M3.1, ⟨_, _, _, _, by unfold St.step; rw [if_neg hf]; exact I3⟩, hB.trans M3.1.1⟩
  case done =>
    rintro D ys W hD hys ⟨⟨vl, vo, bo, vs, hI⟩, hB⟩ hK
    have hby := (run_byts (ys.map (·.p)) St.none (fun x hx => by cases hx) byts_nil (parts_byts ys)).1
    have hI2 := hide (hI.drew.own (grownBy_putObj' W.drew D (.deferred none)) (fun r e => by cases e; exact ⟨_, hK, rfl⟩))
    obtain ⟨a', cap', rfl, _⟩ := hasL_of_recs hI.rows hI.recs hby
    have q1 := hI.l.cell
    have q2 := hI.g.cell
    have hm : Tryd.prog.follows .mixedOrders = true := by kernel_rfl
    replace hys := hide hys
    replace hI := hide hI
    generalize hs : St.none.run (ys.map (·.p)) = s at q1 q2 hI2 hby hI
    have hK2 : W.drew.heap[D]? = some (.deferred (some [])) := hK
    gi_wp2
    gi_region
    gi_wp2
    refine ⟨by simp, .inl ⟨_, _, rfl, run_takeDeferred hK2, ?_⟩⟩
    refine ⟨_, results_tmp3 rfl _ _ _, ?_⟩
    obtain ⟨a2, cap2, e2, hL⟩ := hasL_of_recs hI2.out.rows hI2.out.recs hby
    cases e2
    subst hs
    exact ⟨_, hys.out, _, _, rfl, hL, (below_drews hB).trans (belowK_b (w := w) (Nat.le_refl _) W.drew D _ _ (by omega) hK2 rfl rfl)⟩
  case stop =>
    rintro D c pre W _ _ h _
    exact h.elim
theorem read_any (w : World) (number : Nat) (a : Option Addr) (len cap : Nat) (zs : List Int) (h : Has w a len cap zs) (hl : len ≤ 16777216) (hn1 : number ≤ 4294967295) (ht : Tab w) :
    Calls Tryd.prog 16 #[.int .i64 (number : Int), .slice a len cap] w fun e w' => ∃ ps, Rights number false zs ps ∧ Reads w (St.none.run ps) e w' :=
  callsIn_wide.1 (read_in 5 (by omega) w number a len cap zs h hl hn1 ht)
end Go.Proofs.YtbaclihlckfndaaDoor
