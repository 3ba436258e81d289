/-
  The walks of Open and the reference's.
-/
import Derived.Test.YtmfllalmnhkakaaDoorF
namespace Go.Proofs.YtmfllalmnhkakaaDoor
open Go.RowKit
set_option linter.unusedVariables false

theorem Has.cut {w : World} {a : Option Addr} {len cap : Nat} {l : List Int} (h : Has w a len cap l) (t : Nat) (ht : t ≤ len) : Has w (a.map (fun x => x.add t)) (len - t) (cap - t) (l.drop t) := by
  have h1 := h.hlen
  have h2 := h.le
  have h3 := h.capb
  refine ⟨by simp; omega, by omega, by omega, fun e => ?_, fun hp => ?_, fun x hx => h.bytes x (List.mem_of_mem_drop hx)⟩
  · have := h.nil (by cases a with | none => rfl | some x => simp at e); omega
  · obtain ⟨b, off, rfl, e2, e3⟩ := h.cells (by omega)
    refine ⟨b, off + t, by simp [add_plain], e2, fun i hi => ?_⟩
    have := e3 (t + i) (by omega)
    rw [show off + t + i = off + (t + i) by omega, this]
    simp [List.getD, List.getElem?_drop]
theorem Has.cut0 {w : World} {a : Option Addr} {len : Nat} {l : List Int} (t : Nat) (h : Has w a len t l) : Has w a 0 0 [] :=
  ⟨rfl, Nat.le_refl _, Nat.zero_le _, fun _ => rfl, fun h => by omega, fun x hx => by simp at hx⟩


theorem wpList_copy3 {w : World} {ops : Array Oper} {rest : List Oper} {o : Oper} {a : Act} {Q : Exit → Act → World → Prop} (hgd : o.guard = none) (d s : Operand)
    (ho : o.op = .call { callee := .builtin .copy, args := #[d, s], argTypes := #[23, 23] })
    (base g n c : Nat) (xs : List Int) (hd : a.eval d = .slice (some ⟨g, 0, none⟩) n c) (hown : w.ownsRow base 5 1 (.slice (some ⟨g, 0, none⟩) n c) n (xs.map (Value.int .u8)))
    (sa : Option Addr) (m scap : Nat) (l : List Int) (hs : a.eval s = .slice sa m scap) (hm : n ≤ m) (hh : Has w sa m scap l)
    (h : ∀ w', w'.ownsRow base 5 1 (.slice (some ⟨g, 0, none⟩) n c) n ((l.take n).map (Value.int .u8)) → w.grownBy w' (some g) → wpList Tryd.prog ops Q rest (a.put o.dst (goInt n)) w') :
    wpList Tryd.prog ops Q (o :: rest) a w := by
  have hsz : (Tryd.prog.info? 5).map (·.size) = some 1 := by
    obtain ⟨i0, hi, hz0, hz1, hz2⟩ := info_parts info5
    simp [hi, hz1]
  by_cases h0 : n = 0
  · subst h0
    obtain rfl : xs = [] := List.eq_nil_of_length_eq_zero (by simpa using hown.1)
    exact wpList_copy_nothing hgd d s 23 23 ho 5 Tryd.underlying23 hsz _ _ 0 c m scap hd hs (by simp) (h w (by simpa using hown) (World.grownBy.refl w _))
  · obtain ⟨b, off, rfl, e2, e3⟩ := cells_of_has (hh.front n hm) (by omega)
    rcases hown.2 with ⟨h1, h2⟩ | ⟨g', cap, cur, hv, hbg, hg, hnc, hcm, hcs, htake⟩
    · omega
    · cases hv
      have hl : ((l.take n).map (Value.int .u8)).length = n := by have := hh.hlen; simp; omega
      have key := wpList_copy_own (P := Tryd.prog) (Q := Q) (ops := ops) (rest := rest) hgd d s 23 23 ho 5 Tryd.underlying23 hsz g 0 n c ⟨b, off, none⟩ m scap hd hs cur 5 hg ((l.take n).map (Value.int .u8)) (by rw [hl]; exact (Nat.min_eq_right hm).symm) e3 (by rw [hl]; omega) (ints_oneCell _ _)
      rw [hl] at key
      refine key (h _ ⟨by rw [hl]; omega, .inr ⟨g, c, _, rfl, hbg, setRow_heap w g cur _ 5 _ hg, hnc, hcm, ?_, ?_⟩⟩ ⟨rfl, rfl, rfl, by simp, fun k _ hk => setRow_other w g k _ (fun e => hk (by simp [e]))⟩)
      · have := hh.hlen; simp; omega
      · have hmin : min n l.length = n := by have := hh.hlen; omega
        simp [hmin]

/-- What is opened is none, and false. -/
def None2 (w : World) (e : Ending) (w' : World) : Prop := e = .returned (.tuple #[.slice none 0 0, .bool false]) ∧ Below w.heap.size w w'
/-- A slice and true come out. -/
def Some2 (w : World) (l : List Int) (e : Ending) (w' : World) : Prop := ∃ a n cap, e = .returned (.tuple #[.slice a n cap, .bool true]) ∧ Has w' a n cap l ∧ Below w.heap.size w w'

set_option maxHeartbeats 1000000 in
theorem open_short (w : World) (a : Option Addr) (len cap : Nat) (l : List Int) (h : Has w a len cap l) (h4 : len < 4) :
    Calls Tryd.prog 18 #[.slice a len cap] w (None2 w) := by
  have h4' : (len : Int) < 4 := by omega
  have hr := hide (read_short w a len cap l h h4)
  have hle := h.le
  have hcap := h.capb
  unfold maxLen at hcap
  go_enter Tryd.func18, Tryd.ntmps18
  go_wp2_with fail
  refine hr.out.mono ?_
  rintro e w1 ⟨rfl, rfl⟩
  go_wp2
  go_ret2
  exact ⟨rfl, Below.refl _ _⟩

set_option maxHeartbeats 1000000 in
theorem open_not (w : World) (a : Option Addr) (len cap : Nat) (l : List Int) (h : Has w a len cap l) (n : Nat) (hn : len = n + 4) (ht : Tab w) (he : numK (l.drop n) 4 ≠ more 0 (l.take n)) :
    Calls Tryd.prog 18 #[.slice a len cap] w (None2 w) := by
  subst hn
  obtain ⟨b, off, rfl, hb, hc⟩ := h.cells (by omega)
  have hle := h.le
  have hcap := h.capb
  unfold maxLen at hcap
  have hr := read_any w _ _ _ _ (h.cut n (by omega)) (by omega)
  simp only [Option.map_some, add_plain, Nat.add_sub_cancel_left] at hr
  have hr := hide hr
  have hs := hide (sum_any _ n cap _ w (h.front n (by omega)) ht)
  have q : (((numK (l.drop n) 4 : Nat) : Int) != ((more 0 (l.take n) : Nat) : Int)) = true := by rw [bne_iff_ne]; omega
  clear hc
  generalize numK (l.drop n) 4 = x at *
  generalize more 0 (l.take n) = y at *
  go_enter Tryd.func18, Tryd.ntmps18
  go_wp2_with fail
  refine hr.out.mono ?_
  rintro e w1 ⟨rfl, rfl⟩
  go_wp2_with fail
  refine hs.out.mono ?_
  rintro e w2 ⟨rfl, B2⟩
  go_wp2
  go_ret2
  exact ⟨rfl, B2⟩

set_option maxHeartbeats 1000000 in
theorem open_any (w : World) (a : Option Addr) (len cap : Nat) (l : List Int) (h : Has w a len cap l) (hb : len ≤ 1099511627776) (n : Nat) (hn : len = n + 4) (ht : Tab w) (he : numK (l.drop n) 4 = more 0 (l.take n)) :
    Calls Tryd.prog 18 #[.slice a len cap] w (Some2 w (l.take n)) := by
  subst hn
  obtain ⟨b, off, rfl, hb, hc⟩ := h.cells (by omega)
  have hle := h.le
  have hcap := h.capb
  unfold maxLen at hcap
  have hr := read_any w _ _ _ _ (h.cut n (by omega)) (by omega)
  simp only [Option.map_some, add_plain, Nat.add_sub_cancel_left] at hr
  rw [he] at hr
  have hr := hide hr
  have hs := hide (sum_any _ n cap _ w (h.front n (by omega)) ht)
  have hl := hide (take_bytes h.bytes n)
  clear hc he
  generalize more 0 (l.take n) = y at *
  go_enter Tryd.func18, Tryd.ntmps18
  go_wp2_with fail
  refine hr.out.mono ?_
  rintro e w1 ⟨rfl, rfl⟩
  go_wp2_with fail
  refine hs.out.mono ?_
  rintro e w2 ⟨rfl, B2⟩
  go_wp2_with (first
    | (at_make; refine wpList_make2 rfl (.tmp 29) (.tmp 29) rfl n n _ _ rfl rfl rfl rfl (by omega) (by omega) ?_; intro w3 O3 B3)
    | (refine wpList_copy3 rfl (.tmp 31) (.tmp 32) rfl _ _ n n _ rfl O3 _ (n + 4) cap l rfl (by omega) ((h.kept B2 (Nat.le_refl _)).kept B3 (Nat.le_refl _)) ?_; intro w4 O4 G4; clear O3))
  have B3' := B2.trans (B3.mono B2.size)
  have B4 := B3'.grown G4 B3'.size (fun k hk => by cases hk; exact B2.size)
  obtain ⟨a4, c4, e4, H4⟩ := has_of_owns O4 hl.out
  rw [e4]
  go_wp2
  go_ret2
  exact ⟨_, _, _, rfl, H4, B4⟩
end Go.Proofs.YtmfllalmnhkakaaDoor
