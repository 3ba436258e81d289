/-
  Parse.
-/
import Derived.Test.YtnbhpojcckhlmaaDoorU
namespace Go.Proofs.YtnbhpojcckhlmaaDoor
open Go.RowKit
set_option linter.unusedVariables false
set_option linter.unusedSimpArgs false

def zeroRe : Value := reV 0 noSet (.slice none 0 0) 0 0
/-- What Parse answers. -/
def ParseP (w : World) (s : ByteArray) (e : Ending) (w' : World) : Prop := Below w.heap.size w w' ∧
  ((256 < s.size ∧ e = .returned (.tuple #[zeroRe, .int .i64 0, .int .i64 3])) ∨
   (s.size ≤ 256 ∧ ((∃ p, parseM s = .error p ∧ e = .returned (.tuple #[zeroRe, .int .i64 (p : Int), .int .i64 100])) ∨
     (∃ x t, parseM s = .ok t ∧ e = .returned (.tuple #[x, .int .i64 0, .int .i64 0]) ∧ TrV w' (fun b => w.heap.size ≤ b) x t))))
set_option maxHeartbeats 8000000 in
theorem parse_any (s : ByteArray) (w : World) (hT : Tab w) : Calls Tryd.prog 7 #[.string s] w (ParseP w s) := by
  have H := St.start Nope w
  by_cases h256 : 256 < s.size
  · have i1 : (256 : Int) < (s.size : Int) := by omega
    go_enter Tryd.func7, Tryd.ntmps7
    go_wp2_with (first | (with_reducible refine at_alloc 28 ?_; refine wl_alloc28 H ?_; clear H; intro g w' H q1 q2) | (with_reducible refine at_store 28 ?_; refine wl_store28 0 (n' := 0) (s' := noSet) (l' := .slice none 0 0) (mn' := 0) (mx' := 0) H rfl rfl rfl rfl ?_; clear H; intro w' H))
    refine bodyPost_ret (results_cell2 rfl _ _ _ _ rfl (load28 (H.get 0 rfl))) rfl ?_
    exact ⟨H.below, .inl ⟨h256, rfl⟩⟩
  · have i1 : ¬ ((256 : Int) < (s.size : Int)) := by omega
    have hs : s.size ≤ 256 := by omega
    replace h256 := hide h256
    go_enter Tryd.func7, Tryd.ntmps7
    go_wp2_with (first | (with_reducible refine at_alloc 28 ?_; refine wl_alloc28 H ?_; clear H; intro g w' H q1 q2))
    have hT1 := hT.st H (fun h => h)
    have hp := hT1.pos
    have hg := H.lti 0 rfl
    generalize hz : w'.heap.size = n at *
    refine (parser_any s w' n hz).mono ?_
    rintro e w1 ⟨rfl, E1, B1⟩
    have hT2 := hT1.kept B1 (by omega)
    have hs1 := E1.lt
    go_wp2_with fail
    refine (run_any w' n (by omega) hz s hs w1 hT2 E1 B1).mono ?_
    rintro e w2 ⟨x, a', b, rfl, B2, t, T, A⟩
    have W2 := H.call B2 (by omega)
    have hs2 := B2.size
    clear H
    have H := W2.rebase (fun k => k = g) (fun x hx _ => by simp only [List.mem_cons, List.not_mem_nil, or_false] at hx; subst hx; rfl)
    obtain ⟨va, vn, vc, hx⟩ := T.val
    subst hx
    have fin : Hid (∀ w', But (fun k => k = g) w2 w' → Below w.heap.size w w') := fun w' hb => (W2.but.trans hb (fun i hi h => by omega)).below (Nat.le_refl _) (fun k hk => hk.elim)
    have hsz0 := W2.but.size
    have keep : Hid (∀ w', But (fun k => k = g) w2 w' → TrV w' (fun b => w.heap.size ≤ b) (reV t.1.k t.1.s (.slice va vn vc) t.1.mn t.1.mx) t) := fun w' hb =>
      ((T.mono (P' := fun b => w.heap.size ≤ b ∧ b ≠ g) (fun b hb hP => by omega)).kept (fun b hP hl => hb.block b hl (fun h => hP.2 h))).mono (fun b _ hP => hP.1)
    clear T W2 B2 B1 E1 hT2 hT1
    cases hR : parseM s with
    | error p =>
      rw [hR] at A
      obtain ⟨rfl, rfl⟩ := A
      go_wp2_with (first | (with_reducible refine at_alloc 28 ?_; refine wl_alloc28 H ?_; clear H; intro g5 w' H q1 q2) | (with_reducible refine at_store 28 ?_; first | (refine wl_store28 0 H rfl rfl rfl rfl ?_; clear H; intro w' H) | (refine wl_store28 1 (n' := 0) (s' := noSet) (l' := .slice none 0 0) (mn' := 0) (mx' := 0) H rfl rfl rfl rfl ?_; clear H; intro w' H)))
      refine bodyPost_ret (results_cell2 rfl _ _ _ _ rfl (load28 (H.get 1 rfl))) rfl ?_
      exact ⟨fin.out _ H.but, .inr ⟨hs, .inl ⟨a', hR, rfl⟩⟩⟩
    | ok t' =>
      rw [hR] at A
      obtain ⟨rfl, rfl⟩ := A
      go_wp2_with (first | (with_reducible refine at_alloc 28 ?_; refine wl_alloc28 H ?_; clear H; intro g5 w' H q1 q2) | (with_reducible refine at_load 28 ?_; refine wl_load28 0 H rfl rfl ?_) | (with_reducible refine at_store 28 ?_; first | (refine wl_store28 0 H rfl rfl rfl rfl ?_; clear H; intro w' H) | (refine wl_store28 1 H rfl rfl rfl rfl ?_; clear H; intro w' H)))
      refine bodyPost_ret (results_cell2 rfl _ _ _ _ rfl (load28 (H.get 1 rfl))) rfl ?_
      exact ⟨fin.out _ H.but, .inr ⟨hs, .inr ⟨_, t, hR, rfl, keep.out _ H.but⟩⟩⟩

/-- The three texts of the chapter's example. -/
def tx1 : ByteArray := ⟨#[97, 124, 98, 42]⟩
def tx2 : ByteArray := ⟨#[97, 42, 42]⟩
def tx3 : ByteArray := ⟨#[91, 98, 45, 97, 93]⟩
def look1 (r : Except Nat Tr) : Bool := match r with
  | .ok (n, .cons _ _ (.cons m _ .nil)) => n.k == 3 && m.k == 4 && m.mx == -1
  | _ => false
def look2 (r : Except Nat Tr) (p : Nat) : Bool := match r with
  | .error q => q == p
  | _ => false
theorem ex1 : look1 (parseM tx1) = true := by decide +kernel
theorem ex2 : look2 (parseM tx2) 2 = true := by decide +kernel
theorem ex3 : look2 (parseM tx3) 1 = true := by decide +kernel
end Go.Proofs.YtnbhpojcckhlmaaDoor
