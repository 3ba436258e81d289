/-
  Make, copied, SyncDir.
-/
import Derived.Test.YtgbijkdfhkkieaaG
import Derived.Sort.KeysCollected
namespace Go.Proofs.Ytgbijkdfhkkieaa
open Go.RowKit Go.Maps Go.Lib
set_option linter.unusedVariables false
set_option linter.unusedSimpArgs false

theorem run_makeHint (n : Nat) (w : World) : (Instr.makeMap 62 (some (.int .i64 (n : Int)))).run Try.prog w = .ok (.map (some w.heap.size)) (w.alloc (.map #[] 0)) := by
  simp [Instr.makeMap, run_underlying Try.underlying62, asInt, asIntOf, Result.andThen]
theorem pe_shape (v : Value) (y : DataW Nat × List MemPlace) (h : pe v = some y) : ∃ c, v = Value.pointer c := by
  rcases pe_inv h with ⟨rfl, _⟩ | ⟨g, rfl, _⟩
  · exact ⟨_, rfl⟩
  · exact ⟨_, rfl⟩
set_option maxHeartbeats 2000000 in
set_option maxRecDepth 100000 in
theorem copied_any (b n : Nat) (D0 : DataW Nat) (w : World) (hown : w.ownsMap Try.prog 9 pe b n D0) (hmax : n ≤ 1073741824) :
    Calls Try.prog 34 #[.map (some b)] w fun e w' => e = .returned (.map (some w.heap.size)) ∧ w'.ownsMap Try.prog 9 pe w.heap.size n D0 ∧ Below w.heap.size w w' := by
  have hmm := run_makeHint
  have hbl := hown.lt
  have hsz := hown.size_le
  obtain ⟨S, hS⟩ : ∃ S, Maps.size D0 = S := ⟨_, rfl⟩
  rw [hS] at hsz
  have e1 : (w.alloc (.map #[] 0)).heap.size = w.heap.size + 1 := by simp
  go_enter Try.func34, Try.ntmps34
  go_wp2_with (first
    | (at_len; refine wpList_len_own _ rfl _ 62 rfl 9 73 Try.underlying62 pe b n D0 rfl hown ?_; rw [hS])
    | (at_range; refine wpList_range_own _ rfl _ 62 rfl 9 73 law Try.underlying62 pe b n _ rfl (hown.alloc _) ?_; intro w0 hrg0 hg0 hs0))
  go_frame
  rw [e1] at hrg0 hs0 ⊢
  rw [hS] at hrg0
  go_loopw [4] (fun _ wr => ∃ (left : Lit → Bool) (cnt : Nat) (Dout : DataW Nat), wr.ranges Try.prog 9 pe b (w.heap.size + 1) n D0 left cnt ∧ cnt ≤ S ∧
      wr.ownsMap Try.prog 9 pe w.heap.size (S - cnt) Dout ∧ Agree Dout D0 left ∧ Below w.heap.size w wr)
    (fun _ wr => wr.rangeLeft b (w.heap.size + 1))
  case atStart =>
    exact ⟨_, _, .map [], hrg0, Nat.le_refl _, ((World.ownsMap_made _ _ _ _).kept hg0 (by simp)).mono (Nat.zero_le _), agree_start D0, ((Below.refl _ _).alloc (Nat.le_refl _) _).grown hg0 (by simp) (fun j hj => by cases hj)⟩
  case round =>
    obtain ⟨left, cnt, Dout, hrg, hcs, hout, hA, hnx⟩ := hrel
    go_wp2_with (at_next; refine wpList_next_ranges _ rfl _ rfl 9 law pe encStr Value.pointer (fun key kl hk => by obtain ⟨x, hx, _⟩ := Maps.keyOf_str Try.underlying9 hk; exact ⟨x, hx⟩) pe_shape b (w.heap.size + 1) n _ _ _ rfl hrg ?_ ?_)
    · intro hc0 hl0
      go_wp2
      go_ret
      subst hc0
      have e := agree_end hA hl0 (hout.canon law) (hown.canon law)
      subst e
      exact ⟨rfl, hout.mono (by omega), hnx⟩
    · intro x c kl yd yp w1 cnt1 hkey hlx hv hat hrg1 hlt hg1 hs1 hen
      obtain ⟨x', ex, hkl, hxl⟩ := Maps.keyOf_str Try.underlying9 hkey
      have hout1 := hout.kept hg1 (by simp)
      replace hs1 := hide hs1
      clear ex
      go_wp2_with (at_mapUpdate; refine wpList_mapUpdate_own _ rfl _ _ _ 62 rfl 9 73 law Try.underlying62 pe w.heap.size _ _ rfl hout1 (by unfold maxLen; omega) _ _ _ rfl rfl hkey _ _ hv ?_; intro w2 hout2 hg2; go_frame)
      have hrg2 := hrg1.kept hg2 (fun e => by have := Option.some.inj e; omega) (fun e => by have := Option.some.inj e; omega)
      go_roundw
      case rel =>
        exact ⟨_, cnt1, _, hrg2, by omega, hout2.mono (by omega), agree_step hA hout.isMap (by rw [hkl]; exact isKey _) hat,
          (hnx.grown hg1 hnx.size (fun j hj => by cases hj; exact Nat.le_succ _)).grown hg2 (by have := hnx.size; have := hs1.out; omega) (fun j hj => by cases hj; exact Nat.le_refl _)⟩
      case measure => rw [hrg2.left_eq, hrg.left_eq]; exact hlt

section
variable {w w' : World} {d bf bs : Nat} {m : M} {T : Nat → Prop} {V : Nat → Value × Value}
def sdr (m : M) : M := dn { pw m with sure := (pw m).files }
set_option maxHeartbeats 2000000 in
set_option maxRecDepth 100000 in
theorem syncDir_any (h : Disk w d m T) (hm : Sm m) : Calls Try.prog 15 #[ptr d] w (Res w d T fun r m' => ((pw m).gone = true ∧ r = 8 ∧ m' = pw m) ∨ ((pw m).gone = false ∧ r = 0 ∧ m' = sdr m)) := by
  obtain ⟨bf, bs, V, h⟩ := h
  have hp := hide hm.pw
  cases hg : (pw m).gone with
  | true =>
    go_enter Try.func15, Try.ntmps15
    go_wp2_with fail
    refine (begin_any h (nms_nil w)).mono ?_
    rintro e w1 ⟨rfl, D1, b1⟩
    replace D1 := hide D1
    replace b1 := hide (h.toT b1)
    simp only [List.all_nil, bg, if_true, hg] at D1 ⊢
    go_wp2_with fail
    go_ret
    exact ⟨8, pw m, T, rfl, ⟨bf, bs, V, D1.out⟩, up_same b1.out, .inl ⟨by first | rfl | trivial, rfl, rfl⟩⟩
  | false =>
    go_enter Try.func15, Try.ntmps15
    go_wp2_with fail
    refine (begin_any h (nms_nil w)).mono ?_
    rintro e w1 ⟨rfl, D1, b1⟩
    replace b1 := hide (h.toT b1)
    simp only [List.all_nil, bg, if_true, hg, if_false, Bool.false_eq_true] at D1 ⊢
    obtain ⟨c0, c1, c2, c3, c4, c5, c6⟩ := D1.cs
    replace h := hide h
    have C := hide (copied_any bf (pw m).n (pw m).files w1 D1.mf hp.out.hn)
    replace D1 := hide D1
    go_wp2_with fail
    refine C.out.mono ?_
    rintro e w2 ⟨rfl, own2, B2⟩
    have D2 := D1.out.below B2
    have f4 := D2.dk.fz 4
    obtain ⟨q0, q1, q2, q3, q4, q5, q6⟩ := D2.cs
    have hlt : w1.heap.size < w2.heap.size := own2.lt
    obtain ⟨b', hb'⟩ : ∃ b', w1.heap.size = b' := ⟨_, rfl⟩
    rw [hb'] at own2 hlt
    have D3 : Hid (Dk (w2.setCell ⟨d, 4, none⟩ (.map (some b'))) d { pw m with sure := (pw m).files } (nw T w1 (w2.setCell ⟨d, 4, none⟩ (.map (some b')))) bf b' V) := by
      have hX := D2.dk.set1 4 (.map (some b'))
      have bX := but_setCell w2 d 4 (.map (some b'))
      have K := D2.disk (m' := pw m) (w' := w2.setCell ⟨d, 4, none⟩ (.map (some bs))) (but_setCell w2 d 4 _) (D2.dk.set1 4 (.map (some bs))) rfl rfl rfl rfl rfl
      have hbl := D1.out.mf.lt
      have own3 := ownsMap_of_block own2 (bX.block _ own2.lt (fun e => map_not own2 D2.dk e))
      have mf3 := ownsMap_of_block D2.mf (bX.block _ D2.mf.lt (fun e => map_not D2.mf D2.dk e))
      refine ⟨hX, mf3, own3, by omega, .inl D2.td, .inl D2.tf, .inr ⟨by omega, by simp [World.setCell]; omega⟩, fun g hg => ?_, fun g hg => ?_, D2.byt, D2.s1, D2.s2, D2.vf, D2.vf, fun x hx => ?_⟩
      · exact ⟨.inl (D2.ti g hg).1, fun k hk => .inl ((D2.ti g hg).2.1 k hk), fun k hk => .inl ((D2.ti g hg).2.2 k hk)⟩
      · obtain ⟨a, b, c⟩ := D2.fl g hg
        exact ⟨a.but bX (D2.ndi hg), owns_of_block b (fun k hk => bX.block k (b.lt k hk).2 (D2.n1 hg hk).1), owns_of_block c (fun k hk => bX.block k (c.lt k hk).2 (D2.n2 hg hk).1)⟩
      · rcases hx with hx | hx
        · have := D2.lt x hx
          simpa [World.setCell] using this
        · exact hx.2
    have b3 : Hid (But T w (w2.setCell ⟨d, 4, none⟩ (.map (some b')))) := (b1.out.trans (But.of_below B2 T) (fun _ _ e => e)).setCell (fun _ => h.out.td) _
    have own3 : Hid (∀ x, nw T w1 (w2.setCell ⟨d, 4, none⟩ (.map (some b'))) x → T x ∨ w.heap.size ≤ x) := fun x hx => by
      rcases hx with hx | hx
      · exact .inl hx
      · exact .inr (Nat.le_trans b1.out.size hx.1)
    clear C own2 B2 D2 hlt
    go_wp2_with fail
    refine (done_any D3.out hp.out.hl hp.out.hs).mono ?_
    rintro e w4 ⟨rfl, D4, b4⟩
    replace b4 := hide (b3.out.trans (h.out.toT b4) (fun _ _ e => e))
    replace D4 := hide D4
    clear D3
    go_wp2_with fail
    go_ret
    exact ⟨0, _, _, rfl, ⟨bf, b', V, D4.out⟩, ⟨b4.out, own3.out⟩, .inr ⟨by first | rfl | trivial, rfl, rfl⟩⟩
/-- A disk without files. -/
def m0 (room : Int) : M := ⟨-1, false, 0, .map [], .map [], room, 0, [], fun _ => ([], []), 0⟩
set_option maxHeartbeats 2000000 in
set_option maxRecDepth 100000 in
theorem unlit_any (w : World) : Calls Try.prog 59 #[] w fun e w' => e = .returned (.agg #[.int .i64 (-1), .bool false, .int .i64 0]) ∧ Below w.heap.size w w' ∧ w'.heap.size = w.heap.size + 1 := by
  have X0 := Bx.new w 60 #[.int .i64 (-1), .bool false, .int .i64 0]
  have o0 := X0.cell 0
  have o1 := X0.cell 1
  have o2 := X0.cell 2
  simp only [List.getElem?_toArray, List.getElem?_cons_zero, List.getElem?_cons_succ] at o0 o1 o2
  clear X0
  go_enter Try.func59, Try.ntmps59
  go_wp2
  refine bodyPost_ret (v := .agg #[.int .i64 (-1), .bool false, .int .i64 0]) (by simp [results, Try.f59, go_sem, o0, o1, o2]) rfl ?_
  exact ⟨rfl, (Below.refl _ w).alloc (Nat.le_refl _) _, by simp⟩
set_option maxHeartbeats 2000000 in
set_option maxRecDepth 100000 in
theorem make_any (w : World) (room : Int) (hr : 1 ≤ room ∧ room ≤ 65536) : Calls Try.prog 24 #[.int .i64 room] w fun e w' => ∃ d T, e = .returned (.tuple #[ptr d, .int .i64 0]) ∧ Disk w' d (m0 room) T ∧ Below w.heap.size w w' ∧ ∀ x, T x → w.heap.size ≤ x := by
  have hmm := @run_makeMap Try.prog
  have hd : decide (1 ≤ room ∧ room ≤ 65536) = true := decide_eq_true hr
  go_enter Try.func24, Try.ntmps24
  go_wp2_with fail
  refine (isRoom_any _ _).mono ?_
  rintro e w' ⟨rfl, hw⟩; replace hw := hw.symm; subst hw
  rw [hd]
  go_wp2_with fail
  refine (unlit_any _).mono ?_
  rintro e w1 ⟨rfl, B1, s1⟩
  replace B1 := hide B1
  replace s1 := hide s1
  go_wp2_with fail
  go_ret2
  refine ⟨w1.heap.size + 2, fun x => w.heap.size ≤ x ∧ x < w1.heap.size + 3, rfl, ⟨w1.heap.size, w1.heap.size + 1, fun _ => (.slice none 0 0, .slice none 0 0), ?_⟩, ((B1.out.alloc (by have := B1.out.size; simp; omega) _).alloc (by have := B1.out.size; simp; omega) _).alloc (by have := B1.out.size; simp; omega) _, fun x hx => hx.1⟩
  have M1 := ((World.ownsMap_made w1 Try.prog 9 pe).alloc (.map #[] 0)).alloc (.cells (dcs (m0 room) w1.heap.size (w1.heap.size + 1)) 64)
  have M2 := (World.ownsMap_made (w1.alloc (.map #[] 0)) Try.prog 9 pe).alloc (.cells (dcs (m0 room) w1.heap.size (w1.heap.size + 1)) 64)
  have X := Bx.new ((w1.alloc (.map #[] 0)).alloc (.map #[] 0)) 64 (dcs (m0 room) w1.heap.size (w1.heap.size + 1))
  have z1 : (w1.alloc (.map #[] 0)).heap.size = w1.heap.size + 1 := by simp
  have z2 : ((w1.alloc (.map #[] 0)).alloc (.map #[] 0)).heap.size = w1.heap.size + 2 := by simp
  rw [z1] at M2
  rw [z2] at X
  have hs := s1.out
  exact ⟨X, M1, M2, by omega, ⟨by omega, by omega⟩, ⟨by omega, by omega⟩, ⟨by omega, by omega⟩, fun g hg => (by cases hg), fun g hg => (by cases hg), fun g hg => (by cases hg), fun g hg => (by cases hg), fun g hg => (by cases hg), fun s g e => (by cases e), fun s g e => (by cases e), fun x hx => by simp; omega⟩
end
end Go.Proofs.Ytgbijkdfhkkieaa
