/-
  The iterators over a set's numbers, and over where one goes on from an instruction.
-/
import Derived.Test.YtkfdikpnnkbgaaaGreatDoorSC
import Derived.Test.YtkfdikpnnkbgaaaGreatDoorDD
import Derived.Test.YtkfdikpnnkbgaaaGreatDoorNA
namespace Go.Proofs.YtkfdikpnnkbgaaaGreatDoor
open Go.RowKit Go.Shelf
set_option linter.unusedVariables false
set_option linter.unusedSimpArgs false
attribute [local go_sem] Oper.semAt_some

/-- A number that is handed out. -/
def encN {Pr : Nat → Prop} (x : { i : Nat // Pr i }) : Array Value := #[.int .i64 (x.1 : Int)]
theorem ld105 {w : World} {ad : Addr} {v : Value} (h : w.cell? ad = some v) : (loadVar 114 ad).run Tryz.prog w = .ok v w := by
  have ha : ∀ w, (isAgg 114).run Tryz.prog w = .ok false w := fun w => by kernel_rfl
  simp [loadVar, ha, go_sem, h]
section
variable {F : Fence} {n : Nat} {w w' : World} {ops : Array Oper} {rest : List Oper} {a : Act} {Q : Exit → Act → World → Prop} {dst : Option Nat} {x y : Operand} {ty : TypeId} {pos : String} {after : Array Edge}
theorem atI_index (t : TypeId) (h : wpListIn F n Tryz.prog ops Q (⟨dst, .index t x y, ty, pos, after, none⟩ :: rest) a w) : wpListIn F n Tryz.prog ops Q (⟨dst, .index t x y, ty, pos, after, none⟩ :: rest) a w := h
theorem wlI_index99 (hF : ∀ f, F.fn f) {W : List Nat} {k : Nat} {v : Value} (hx : a.eval x = .agg (wA W)) (hy : a.eval y = .int .i64 (k : Int)) (hk : k < 32) (hv : (wA W)[k]? = some v) (h : wpListIn F n Tryz.prog ops Q rest (a.put dst v) w) : wpListIn F n Tryz.prog ops Q (⟨dst, .index 107 x y, ty, pos, after, none⟩ :: rest) a w := by
  have hz : ∀ w, (sizeOf 22).run Tryz.prog w = .ok 1 w := fun w => by kernel_rfl
  have hp : ∀ w, (part 22 (wA W) (k * 1)).run Tryz.prog w = .ok v w := fun w => run_part_plain _ plain22 (by rw [Nat.mul_one]; exact hv)
  have hb : 0 ≤ (k : Int) ∧ (k : Int) < (32 : Nat) := by omega
  refine wlI_val hF (fun c => nofun) ?_ h
  unfold execOp
  simp only [hx, hy, Instr.index, asIntOf, Sem.run_bind, Sem.run_pure, Result.andThen_ok, run_underlying Tryz.underlying107, if_pos hb, hz, Int.toNat_natCast, hp]
end
theorem Tab.ko {B0 : Nat} {X : Nat → Prop} {w w' : World} (h : Tab w) (k : KO B0 X w w') (h0 : 0 < B0) (hX : ¬ X 0) : Tab w' := fun i hi => (World.cell?_of_block (k.2 0 h0 h.pos hX)).trans (h i hi)
theorem low_lt (x : Nat) (h : 0 < x) : x &&& (x - 1) < x := Nat.lt_of_le_of_lt Nat.and_le_right (by omega)
theorem low_off_i (x : Nat) (h : 0 < x) (hx : x < 18446744073709551616) : bits BinOp.and IntKind.u64 (x : Int) ((x : Int) - 1) = ((x &&& (x - 1) : Nat) : Int) := by
  rw [show (x : Int) - 1 = ((x - 1 : Nat) : Int) by omega]
  exact and_nat x (x - 1) hx (by omega)
set_option maxHeartbeats 4000000 in
set_option maxRecDepth 100000 in
theorem all_stops {Pr : Nat → Prop} (B0 : Nat) (X : Nat → Prop) (n : Nat) (B g : Nat) (pre : Array Value) (t : TypeId) (W : List Nat) (hW : OkW W) (w : World) (hBb : w.heap[B]? = some (.cells #[.pointer (some ⟨g, pre.size, none⟩)] 114 (0, 0))) (hg : w.heap[g]? = some (.cells (pA pre W) t (0, 0))) (hT : Tab w) (hB0 : 0 < B0) (hX : ¬ X 0) (hPr : ∀ i ∈ mems W, Pr i) :
    SeqStopsK Fence.wide n Tryz.prog 82 #[.pointer (some ⟨B, 0, none⟩)] (encN (Pr := Pr)) (KO B0 X) (fun xs => xs.map (·.1) = mems W) (fun p => p.map (·.1) <+: mems W) (mems W).length w := fun l J Jx V hV hAJ hAJx hYY h0 => by
  have hBl : B < w.heap.size := (Array.getElem?_eq_some_iff.1 hBb).1
  have hBV := (hV.block B hBl).trans hBb
  have cB := cell_row hBV 0 (v := .pointer (some ⟨g, pre.size, none⟩)) rfl
  have hgV := (hV.block g (Array.getElem?_eq_some_iff.1 hg).1).trans hg
  have hl99 := hide (load99 hW hgV)
  have hTV : Hid (Tab V) := hT.below hV
  replace hYY : Hid _ := hide hYY
  replace hAJh := hide hAJ
  replace h0 := hide h0
  replace hBV := hide hBV
  have hlen := hW.len
  have hlt := hide hW.lt
  replace hPr := hide hPr
  generalize hM : mems W = M at *
  replace hM : Hid (fromN W 0 32 = M) := hM
  generalize pre.size = o at *
  clear hV hgV hBb hg hT
  show CallsIn Fence.wide n Tryz.prog 82 #[.func (.yield l) #[] #[], .pointer (some ⟨B, 0, none⟩)] V _
  refine callsIn_of_wp Tryz.func82 rfl trivial ?_ rfl
  simp only [Tryz.ntmps82, List.size_toArray, List.length_cons, List.length_nil, Nat.reduceAdd, Nat.reduceSub, Array.replicate_succ, Array.replicate_zero, List.push_toArray, List.append_toArray, List.nil_append, List.cons_append]
  gi_wp2_with (first | ((with_reducible refine atI_load 114 ?_); refine wlI_load 114 wide_fn rfl (ld105 cB) ?_) | ((with_reducible refine atI_load 107 ?_); refine wlI_load 107 wide_fn rfl hl99.out ?_))
  gi_loopw [9] (fun iv wr => ∃ (k : Nat) (xs : List { i : Nat // Pr i }), iv = .int .i64 ((k : Nat) : Int) ∧ k ≤ 32 ∧ Hid (xs.map (·.1) ++ fromN W k (32 - k) = M) ∧ Hid (J xs wr) ∧ Hid (KO B0 X V wr)) (fun iv _ => 32 - (intOf iv).toNat)
  case atStart => exact ⟨0, [], rfl, by omega, hM, h0, KO.refl _ _ _⟩
  case round =>
    obtain ⟨k, xs, rfl, hk, hxs, hJr, hkr⟩ := hrel
    by_cases hlt32 : k < 32
    · have i1 : (k : Int) < 32 := by omega
      have hwk : (wA W)[k]? = some (.int .u64 ((W.getD k 0 : Nat) : Int)) := wA_at (by omega)
      have hsz : (wA W).size = 32 := by rw [wA_size, hlen]
      have hxk := hlt.out k
      have hxs2 : Hid (xs.map (·.1) ++ ((wl (W.getD k 0)).map (fun j => k * 64 + j) ++ fromN W (k + 1) (31 - k)) = M) := by
        have := hxs.out
        rw [show 32 - k = (31 - k) + 1 by omega, fromN] at this
        exact this
      have hlt32H := hide hlt32
      generalize W.getD k 0 = x0 at *
      obtain ⟨k6, hk6⟩ : ∃ k6 : Nat, (k : Int) * 64 = (k6 : Int) := ⟨k * 64, by omega⟩
      have hk6' : k * 64 = k6 := by omega
      have hk6b : k6 ≤ 2048 := by omega
      gi_wp2_with (first | ((with_reducible refine atI_index 107 ?_); refine wlI_index99 wide_fn rfl rfl hlt32 hwk ?_))
      clear hwk hsz
      gi_loopw [4] (fun v wr => ∃ (x : Nat) (ys : List { i : Nat // Pr i }), v = .int .u64 ((x : Nat) : Int) ∧ x < 18446744073709551616 ∧ Hid (ys.map (·.1) ++ ((wl x).map (fun j => k * 64 + j) ++ fromN W (k + 1) (31 - k)) = M) ∧ Hid (J ys wr) ∧ Hid (KO B0 X V wr)) (fun v _ => (intOf v).toNat)
      case atStart => exact ⟨x0, xs, rfl, hxk, hxs2, hJr, hkr⟩
      case round =>
        obtain ⟨x, ys, rfl, hxl, hys, hJy, hky⟩ := hrel
        by_cases hx0 : x = 0
        · subst hx0
          have hxs3 : Hid (ys.map (·.1) ++ fromN W (k + 1) (32 - (k + 1)) = M) := by
            have := hys.out
            rw [wl_zero, List.map_nil, List.nil_append] at this
            rw [show 32 - (k + 1) = 31 - k by have := hlt32H.out; omega]
            exact this
          gi_wp2
          go_roundw
          case rel => exact ⟨k + 1, ys, by go_num, by have := hlt32H.out; omega, hxs3, hJy, hky⟩
          case measure => have := hlt32H.out; simp [intOf]; omega
        · have hpos : 0 < x := by omega
          have hx1 : ((x : Int) == 0) = false := by simpa using hx0
          have hstep := wl_step x hpos hxl
          have htz : tz x < 64 := (tz_spec x hpos hxl).elim fun _ h => h.2
          have hTz := hide (tz_any x wr hpos hxl (hTV.out.ko hky.out hB0 hX))
          generalize tz x = z at hstep htz hTz
          obtain ⟨v, hv⟩ : ∃ v : Nat, (k6 : Int) + (z : Int) = (v : Int) := ⟨k6 + z, by omega⟩
          have hv' : k * 64 + z = v := by omega
          obtain ⟨y, hy1⟩ : ∃ y : Nat, (x : Int) - 1 = (y : Int) := ⟨x - 1, by omega⟩
          have hy2 : IntKind.u64.wrap ((x : Int) - 1) = (y : Int) := by rw [IntKind.wrap_u64]; omega
          have hlow := low_off_i x hpos hxl
          have hlw := low_lt x hpos
          rw [hy1] at hlow
          generalize (x &&& (x - 1)) = x2 at hlow hlw hstep
          have hM2 : Hid ((ys.map (·.1) ++ [v]) ++ ((wl x2).map (fun j => k * 64 + j) ++ fromN W (k + 1) (31 - k)) = M) := by
            have := hys.out
            rw [hstep, List.map_cons, hv'] at this
            show _ = _
            rw [← this]
            simp
          have hln : ys.length < M.length := by
            rw [← hM2.out]; simp
          have hpv : Pr v := hPr.out v (by rw [← hM2.out]; simp)
          have hM3 : Hid ((ys ++ [(⟨v, hpv⟩ : { i : Nat // Pr i })]).map (·.1) ++ ((wl x2).map (fun j => k * 64 + j) ++ fromN W (k + 1) (31 - k)) = M) := by
            have := hM2.out
            show _ = _
            rw [List.map_append]
            exact this
          have hpre : Hid ((ys ++ [(⟨v, hpv⟩ : { i : Nat // Pr i })]).map (·.1) <+: M) := ⟨_, hM3.out⟩
          obtain ⟨fn, tmps, assign, body, hy, hR⟩ := hYY.out ys ⟨v, hpv⟩ wr hJy.out hln
          simp only [encN] at hy
          replace hstep := hide hstep
          replace hlw := hide hlw
          replace hx0 := hide hx0
          gi_wp2
          refine ⟨trivial, fun h => (by cases h), (callsIn_wide.2 hTz.out).mono ?_⟩
          rintro e w5 ⟨rfl, rfl⟩
          gi_wp2
          refine ⟨fun h => (by cases h), hR.mono ?_⟩
          clear hy hR
          rintro e W5 (⟨rfl, hJ5, hk5⟩ | ⟨rfl, hJx5⟩)
          · have hk6 : Hid (KO B0 X V W5) := hky.out.trans hk5
            replace hJ5 := hide hJ5
            clear hk5
            gi_wp2
            go_roundw
            case rel => exact ⟨x2, _, by first | rfl | go_num, by have := hlw.out; omega, hM3, hJ5, hk6⟩
            case measure => have := hlw.out; simp [intOf]; omega
          · replace hJx5 := hide hJx5
            gi_wp2
            refine bodyPost_ret (results_none rfl _ _ _) rfl ?_
            exact ⟨⟨_, rfl⟩, .inr ⟨_, hpre.out, hJx5.out⟩⟩
    · obtain rfl : k = 32 := by omega
      have hx2 : xs.map (·.1) = M := by have := hxs.out; simpa [fromN] using this
      replace hx2 := hide hx2
      have i1 : ¬ (((32 : Nat) : Int) < 32) := by omega
      gi_wp2
      go_end0
      exact ⟨⟨_, rfl⟩, .inl ⟨xs, hx2.out, hJr.out⟩⟩
end Go.Proofs.YtkfdikpnnkbgaaaGreatDoor
