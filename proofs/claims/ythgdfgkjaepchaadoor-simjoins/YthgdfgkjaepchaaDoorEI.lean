/-
  isFit of a pattern that may not be; the iterator over all of a pattern, with what it hands out; Size, Check of any pattern.
-/
import Derived.Test.YthgdfgkjaepchaaDoorAA
import Derived.Test.YthgdfgkjaepchaaDoorDA
namespace Go.Proofs.YthgdfgkjaepchaaDoor
open Go.RowKit Go.Shelf
set_option linter.unusedVariables false
set_option linter.unusedSimpArgs false
attribute [local go_sem] Oper.semAt_some

theorem eqS_no {s : S4} (h : s ≠ noSet) : eqS s noSet = false := by
  cases he : eqS s noSet with
  | false => rfl
  | true =>
    exfalso
    apply h
    simp only [eqS, Bool.and_eq_true, beq_iff_eq] at he
    obtain ⟨h1, h2, h3, h4⟩ := he
    cases s
    simp_all [noSet]
theorem neq24_no {s : S4} (h : s ≠ noSet) (w : World) : (binOp .neq 24 (.agg #[.int .u64 s.a, .int .u64 s.b, .int .u64 s.c, .int .u64 s.d]) (.agg #[.int .u64 0, .int .u64 0, .int .u64 0, .int .u64 0])).run Tryd.prog w = .ok (.bool true) w := by
  have := run_neq24 s noSet w
  rw [eqS_no h] at this
  exact this
set_option maxHeartbeats 4000000 in
set_option maxRecDepth 100000 in
theorem nofit_1 (k : Int) (s : S4) (ln : Nat) (mn mx : Int) (h1 : ¬ k = 1) (hs : s ≠ noSet) (a : Option Addr) (c : Nat) (w : World) : Calls Tryd.prog 58 #[reV (k) (s) (.slice a ln c) (mn) (mx)] w fun e w' => e = .returned (.bool false) ∧ Below w.heap.size w w' := by
  have H := St.start Nope w
  have kn := fun w => neq25 w
  have kg := guard25
  have h1b : (k == 1) = false := by simpa using h1
  have kn2 := fun w => neq24_no hs w
  clear kn hs
  go_enter Tryd.func58, Tryd.ntmps58
  go_wp2_with (first | ((with_reducible refine at_box 27 ?_); refine wl_box28 H rfl ?_; clear H; intro g w' H q1 q2; have c0 := H.cell 0 0 rfl (v := .int .i64 (k)) rfl; have c1 := H.cell 0 1 rfl (v := .int .u64 (s).a) rfl; have c2 := H.cell 0 2 rfl (v := .int .u64 (s).b) rfl; have c3 := H.cell 0 3 rfl (v := .int .u64 (s).c) rfl; have c4 := H.cell 0 4 rfl (v := .int .u64 (s).d) rfl; have c5 := H.cell 0 5 rfl (v := .slice a ln c) rfl; have c6 := H.cell 0 6 rfl (v := .int .i64 (mn)) rfl; have c7 := H.cell 0 7 rfl (v := .int .i64 (mx)) rfl; try simp only [noSet] at c1 c2 c3 c4))
  go_ret
  exact ⟨rfl, H.below⟩
set_option maxHeartbeats 4000000 in
set_option maxRecDepth 100000 in
theorem nofit_2 (ln : Nat) (mn mx : Int) (h : ¬ ln = 1) (a : Option Addr) (c : Nat) (w : World) : Calls Tryd.prog 58 #[reV (4) (noSet) (.slice a ln c) (mn) (mx)] w fun e w' => e = .returned (.bool false) ∧ Below w.heap.size w w' := by
  have H := St.start Nope w
  have kn := fun w => neq25 w
  have kg := guard25
  have hb : ((ln : Int) == 1) = false := beq_eq_false_iff_ne.2 (by omega)
  have hc : ¬ ((ln : Int) = 1) := by omega
  go_enter Tryd.func58, Tryd.ntmps58
  go_wp2_with (first | ((with_reducible refine at_box 27 ?_); refine wl_box28 H rfl ?_; clear H; intro g w' H q1 q2; have c0 := H.cell 0 0 rfl (v := .int .i64 (4)) rfl; have c1 := H.cell 0 1 rfl (v := .int .u64 (noSet).a) rfl; have c2 := H.cell 0 2 rfl (v := .int .u64 (noSet).b) rfl; have c3 := H.cell 0 3 rfl (v := .int .u64 (noSet).c) rfl; have c4 := H.cell 0 4 rfl (v := .int .u64 (noSet).d) rfl; have c5 := H.cell 0 5 rfl (v := .slice a ln c) rfl; have c6 := H.cell 0 6 rfl (v := .int .i64 (mn)) rfl; have c7 := H.cell 0 7 rfl (v := .int .i64 (mx)) rfl; try simp only [noSet] at c1 c2 c3 c4))
  go_ret
  exact ⟨rfl, H.below⟩
set_option maxHeartbeats 4000000 in
set_option maxRecDepth 100000 in
theorem nofit_3 (mn mx : Int) (h : arT mn mx = false) (a : Option Addr) (c : Nat) (w : World) : Calls Tryd.prog 58 #[reV (4) (noSet) (.slice a 1 c) (mn) (mx)] w fun e w' => e = .returned (.bool false) ∧ Below w.heap.size w w' := by
  have H := St.start Nope w
  have kn := fun w => neq25 w
  have kg := guard25
  go_enter Tryd.func58, Tryd.ntmps58
  go_wp2_with (first | ((with_reducible refine at_box 27 ?_); refine wl_box28 H rfl ?_; clear H; intro g w' H q1 q2; have c0 := H.cell 0 0 rfl (v := .int .i64 (4)) rfl; have c1 := H.cell 0 1 rfl (v := .int .u64 (noSet).a) rfl; have c2 := H.cell 0 2 rfl (v := .int .u64 (noSet).b) rfl; have c3 := H.cell 0 3 rfl (v := .int .u64 (noSet).c) rfl; have c4 := H.cell 0 4 rfl (v := .int .u64 (noSet).d) rfl; have c5 := H.cell 0 5 rfl (v := .slice a 1 c) rfl; have c6 := H.cell 0 6 rfl (v := .int .i64 (mn)) rfl; have c7 := H.cell 0 7 rfl (v := .int .i64 (mx)) rfl; try simp only [noSet] at c1 c2 c3 c4))
  refine (areTimes_any mn mx _).mono ?_
  rintro e w1 ⟨rfl, rfl⟩
  rw [h]
  go_wp2_with fail
  go_ret
  exact ⟨rfl, H.below⟩
set_option maxHeartbeats 4000000 in
set_option maxRecDepth 100000 in
theorem nofit_4a (s : S4) (ln : Nat) (mn mx : Int) (h : ¬ mn = 0) (a : Option Addr) (c : Nat) (w : World) : Calls Tryd.prog 58 #[reV (1) (s) (.slice a ln c) (mn) (mx)] w fun e w' => e = .returned (.bool false) ∧ Below w.heap.size w w' := by
  have H := St.start Nope w
  have kn := fun w => neq25 w
  have kg := guard25
  have hb : (mn == 0) = false := by simpa using h
  go_enter Tryd.func58, Tryd.ntmps58
  go_wp2_with (first | ((with_reducible refine at_box 27 ?_); refine wl_box28 H rfl ?_; clear H; intro g w' H q1 q2; have c0 := H.cell 0 0 rfl (v := .int .i64 (1)) rfl; have c1 := H.cell 0 1 rfl (v := .int .u64 (s).a) rfl; have c2 := H.cell 0 2 rfl (v := .int .u64 (s).b) rfl; have c3 := H.cell 0 3 rfl (v := .int .u64 (s).c) rfl; have c4 := H.cell 0 4 rfl (v := .int .u64 (s).d) rfl; have c5 := H.cell 0 5 rfl (v := .slice a ln c) rfl; have c6 := H.cell 0 6 rfl (v := .int .i64 (mn)) rfl; have c7 := H.cell 0 7 rfl (v := .int .i64 (mx)) rfl; try simp only [noSet] at c1 c2 c3 c4))
  go_ret
  exact ⟨rfl, H.below⟩
set_option maxHeartbeats 4000000 in
set_option maxRecDepth 100000 in
theorem nofit_4b (k : Int) (ln : Nat) (mn mx : Int) (h1 : ¬ k = 1) (h4 : ¬ k = 4) (h : ¬ mn = 0) (a : Option Addr) (c : Nat) (w : World) : Calls Tryd.prog 58 #[reV (k) (noSet) (.slice a ln c) (mn) (mx)] w fun e w' => e = .returned (.bool false) ∧ Below w.heap.size w w' := by
  have H := St.start Nope w
  have kn := fun w => neq25 w
  have kg := guard25
  have hb : (mn == 0) = false := by simpa using h
  have h1b : (k == 1) = false := by simpa using h1
  have h4b : (k == 4) = false := by simpa using h4
  go_enter Tryd.func58, Tryd.ntmps58
  go_wp2_with (first | ((with_reducible refine at_box 27 ?_); refine wl_box28 H rfl ?_; clear H; intro g w' H q1 q2; have c0 := H.cell 0 0 rfl (v := .int .i64 (k)) rfl; have c1 := H.cell 0 1 rfl (v := .int .u64 (noSet).a) rfl; have c2 := H.cell 0 2 rfl (v := .int .u64 (noSet).b) rfl; have c3 := H.cell 0 3 rfl (v := .int .u64 (noSet).c) rfl; have c4 := H.cell 0 4 rfl (v := .int .u64 (noSet).d) rfl; have c5 := H.cell 0 5 rfl (v := .slice a ln c) rfl; have c6 := H.cell 0 6 rfl (v := .int .i64 (mn)) rfl; have c7 := H.cell 0 7 rfl (v := .int .i64 (mx)) rfl; try simp only [noSet] at c1 c2 c3 c4))
  go_ret
  exact ⟨rfl, H.below⟩
set_option maxHeartbeats 4000000 in
set_option maxRecDepth 100000 in
theorem nofit_5a (s : S4) (ln : Nat) (mx : Int) (h : ¬ mx = 0) (a : Option Addr) (c : Nat) (w : World) : Calls Tryd.prog 58 #[reV (1) (s) (.slice a ln c) (0) (mx)] w fun e w' => e = .returned (.bool false) ∧ Below w.heap.size w w' := by
  have H := St.start Nope w
  have kn := fun w => neq25 w
  have kg := guard25
  have hb : (mx == 0) = false := by simpa using h
  go_enter Tryd.func58, Tryd.ntmps58
  go_wp2_with (first | ((with_reducible refine at_box 27 ?_); refine wl_box28 H rfl ?_; clear H; intro g w' H q1 q2; have c0 := H.cell 0 0 rfl (v := .int .i64 (1)) rfl; have c1 := H.cell 0 1 rfl (v := .int .u64 (s).a) rfl; have c2 := H.cell 0 2 rfl (v := .int .u64 (s).b) rfl; have c3 := H.cell 0 3 rfl (v := .int .u64 (s).c) rfl; have c4 := H.cell 0 4 rfl (v := .int .u64 (s).d) rfl; have c5 := H.cell 0 5 rfl (v := .slice a ln c) rfl; have c6 := H.cell 0 6 rfl (v := .int .i64 (0)) rfl; have c7 := H.cell 0 7 rfl (v := .int .i64 (mx)) rfl; try simp only [noSet] at c1 c2 c3 c4))
  go_ret
  exact ⟨rfl, H.below⟩
set_option maxHeartbeats 4000000 in
set_option maxRecDepth 100000 in
theorem nofit_5b (k : Int) (ln : Nat) (mx : Int) (h1 : ¬ k = 1) (h4 : ¬ k = 4) (h : ¬ mx = 0) (a : Option Addr) (c : Nat) (w : World) : Calls Tryd.prog 58 #[reV (k) (noSet) (.slice a ln c) (0) (mx)] w fun e w' => e = .returned (.bool false) ∧ Below w.heap.size w w' := by
  have H := St.start Nope w
  have kn := fun w => neq25 w
  have kg := guard25
  have hb : (mx == 0) = false := by simpa using h
  have h1b : (k == 1) = false := by simpa using h1
  have h4b : (k == 4) = false := by simpa using h4
  go_enter Tryd.func58, Tryd.ntmps58
  go_wp2_with (first | ((with_reducible refine at_box 27 ?_); refine wl_box28 H rfl ?_; clear H; intro g w' H q1 q2; have c0 := H.cell 0 0 rfl (v := .int .i64 (k)) rfl; have c1 := H.cell 0 1 rfl (v := .int .u64 (noSet).a) rfl; have c2 := H.cell 0 2 rfl (v := .int .u64 (noSet).b) rfl; have c3 := H.cell 0 3 rfl (v := .int .u64 (noSet).c) rfl; have c4 := H.cell 0 4 rfl (v := .int .u64 (noSet).d) rfl; have c5 := H.cell 0 5 rfl (v := .slice a ln c) rfl; have c6 := H.cell 0 6 rfl (v := .int .i64 (0)) rfl; have c7 := H.cell 0 7 rfl (v := .int .i64 (mx)) rfl; try simp only [noSet] at c1 c2 c3 c4))
  go_ret
  exact ⟨rfl, H.below⟩
set_option maxHeartbeats 4000000 in
set_option maxRecDepth 100000 in
theorem nofit_6 (s : S4) (ln : Nat) (h : ¬ ln = 0) (a : Option Addr) (c : Nat) (w : World) : Calls Tryd.prog 58 #[reV (1) (s) (.slice a ln c) (0) (0)] w fun e w' => e = .returned (.bool false) ∧ Below w.heap.size w w' := by
  have H := St.start Nope w
  have kn := fun w => neq25 w
  have kg := guard25
  have hb : ((ln : Int) == 0) = false := beq_eq_false_iff_ne.2 (by omega)
  have hc : ¬ ((ln : Int) = 0) := by omega
  go_enter Tryd.func58, Tryd.ntmps58
  go_wp2_with (first | ((with_reducible refine at_box 27 ?_); refine wl_box28 H rfl ?_; clear H; intro g w' H q1 q2; have c0 := H.cell 0 0 rfl (v := .int .i64 (1)) rfl; have c1 := H.cell 0 1 rfl (v := .int .u64 (s).a) rfl; have c2 := H.cell 0 2 rfl (v := .int .u64 (s).b) rfl; have c3 := H.cell 0 3 rfl (v := .int .u64 (s).c) rfl; have c4 := H.cell 0 4 rfl (v := .int .u64 (s).d) rfl; have c5 := H.cell 0 5 rfl (v := .slice a ln c) rfl; have c6 := H.cell 0 6 rfl (v := .int .i64 (0)) rfl; have c7 := H.cell 0 7 rfl (v := .int .i64 (0)) rfl; try simp only [noSet] at c1 c2 c3 c4))
  go_ret
  exact ⟨rfl, H.below⟩
set_option maxHeartbeats 4000000 in
set_option maxRecDepth 100000 in
theorem nofit_7 (k : Int) (ln : Nat) (h1 : ¬ k = 1) (h2 : ¬ k = 2) (h3 : ¬ k = 3) (h4 : ¬ k = 4) (a : Option Addr) (c : Nat) (w : World) : Calls Tryd.prog 58 #[reV (k) (noSet) (.slice a ln c) (0) (0)] w fun e w' => e = .returned (.bool false) ∧ Below w.heap.size w w' := by
  have H := St.start Nope w
  have kn := fun w => neq25 w
  have kg := guard25
  have h1b : (k == 1) = false := by simpa using h1
  have h2b : (k == 2) = false := by simpa using h2
  have h3b : (k == 3) = false := by simpa using h3
  have h4b : (k == 4) = false := by simpa using h4
  go_enter Tryd.func58, Tryd.ntmps58
  go_wp2_with (first | ((with_reducible refine at_box 27 ?_); refine wl_box28 H rfl ?_; clear H; intro g w' H q1 q2; have c0 := H.cell 0 0 rfl (v := .int .i64 (k)) rfl; have c1 := H.cell 0 1 rfl (v := .int .u64 (noSet).a) rfl; have c2 := H.cell 0 2 rfl (v := .int .u64 (noSet).b) rfl; have c3 := H.cell 0 3 rfl (v := .int .u64 (noSet).c) rfl; have c4 := H.cell 0 4 rfl (v := .int .u64 (noSet).d) rfl; have c5 := H.cell 0 5 rfl (v := .slice a ln c) rfl; have c6 := H.cell 0 6 rfl (v := .int .i64 (0)) rfl; have c7 := H.cell 0 7 rfl (v := .int .i64 (0)) rfl; try simp only [noSet] at c1 c2 c3 c4))
  go_ret
  exact ⟨rfl, H.below⟩
theorem isFit_no (n : Nd) (a : Option Addr) (len c : Nat) (h : ¬ fitN n len) (w : World) : Calls Tryd.prog 58 #[reV n.k n.s (.slice a len c) n.mn n.mx] w fun e w' => e = .returned (.bool false) ∧ Below w.heap.size w w' := by
  obtain ⟨k, s, mn, mx⟩ := n
  simp only
  by_cases h1 : k = 1
  · subst h1
    by_cases hmn : mn = 0
    · subst hmn
      by_cases hmx : mx = 0
      · subst hmx
        refine nofit_6 s len (fun hl => h ?_) a c w
        subst hl
        exact ⟨fun h => absurd rfl h, fun h => by simp at h, fun _ => ⟨rfl, rfl⟩, .inl ⟨rfl, rfl⟩⟩
      · exact nofit_5a s len mx hmx a c w
    · exact nofit_4a s len mn mx hmn a c w
  by_cases hs : s = noSet
  · subst hs
    by_cases h4 : k = 4
    · subst h4
      by_cases hl : len = 1
      · subst hl
        cases ha : arT mn mx with
        | false => exact nofit_3 mn mx ha a c w
        | true => exact absurd ⟨fun _ => rfl, fun _ => ⟨rfl, ha⟩, fun h => absurd rfl h, .inr (.inr (.inr rfl))⟩ h
      · exact nofit_2 len mn mx hl a c w
    by_cases hmn : mn = 0
    · subst hmn
      by_cases hmx : mx = 0
      · subst hmx
        refine nofit_7 k len h1 (fun h2 => h ?_) (fun h3 => h ?_) h4 a c w
        · exact ⟨fun _ => rfl, fun h => absurd h h4, fun _ => ⟨rfl, rfl⟩, .inr (.inl h2)⟩
        · exact ⟨fun _ => rfl, fun h => absurd h h4, fun _ => ⟨rfl, rfl⟩, .inr (.inr (.inl h3))⟩
      · exact nofit_5b k len mx h1 h4 hmx a c w
    · exact nofit_4b k len mn mx h1 h4 hmn a c w
  · exact nofit_1 k s len mn mx h1 hs a c w
/-- What is handed out of a list, in its order: how deep, which one, how many members. -/
def Fo.ems : Nat → Fo → List (Nat × Nd × Nat)
  | _, .nil => []
  | d, .cons n k r => (d, n, k.len) :: (k.ems (d + 1) ++ r.ems d)
def emsT (d : Nat) (t : Tr) : List (Nat × Nd × Nat) := (d, t.1, t.2.len) :: t.2.ems (d + 1)
def Fo.emsTo (f : Fo) (d : Nat) : Nat → List (Nat × Nd × Nat)
  | 0 => []
  | i + 1 => f.emsTo d i ++ emsT d (f.nth i)
theorem emsTo_cons (n : Nd) (k r : Fo) (d : Nat) : ∀ i, (Fo.cons n k r).emsTo d (i + 1) = emsT d (n, k) ++ r.emsTo d i
  | 0 => by simp [Fo.emsTo, Fo.nth]
  | i + 1 => by rw [Fo.emsTo, emsTo_cons n k r d i, Fo.emsTo, List.append_assoc]; rfl
theorem emsTo_len : ∀ (f : Fo) (d : Nat), f.emsTo d f.len = f.ems d
  | .nil, _ => rfl
  | .cons n k r, d => by rw [Fo.len, emsTo_cons, emsTo_len r, Fo.ems]; simp [emsT]
theorem ems_len : ∀ (f : Fo) (d : Nat), (f.ems d).length = f.sz
  | .nil, _ => rfl
  | .cons n k r, d => by simp [Fo.ems, Fo.sz, ems_len k, ems_len r]; omega
theorem emsT_len (t : Tr) (d : Nat) : (emsT d t).length = szT t := by simp [emsT, szT, ems_len]; omega
theorem ems_all {Q : Nat → Nd → Nat → Prop} : ∀ (f : Fo) (d : Nat), (∀ x ∈ f.ems d, Q x.1 x.2.1 x.2.2) → AllF Q d f
  | .nil, _, _ => trivial
  | .cons n k r, d, h => ⟨h (d, n, k.len) (by simp [Fo.ems]), ems_all k (d + 1) (fun x hx => h x (by simp [Fo.ems, hx])), ems_all r d (fun x hx => h x (by simp [Fo.ems, hx]))⟩
theorem all_fit : ∀ (f : Fo) (d : Nat), AllF (fun _ n len => fitN n len) d f → f.fit
  | .nil, _, _ => trivial
  | .cons n k r, d, ⟨h1, h2, h3⟩ => ⟨h1, all_fit k _ h2, all_fit r _ h3⟩
def keyE {Pr : Nat → Nd → Nat → Prop} (x : Em Pr) : Nat × Nd × Nat := (x.d, x.nd, x.len)
theorem allD : ∀ (f : Fo) (d : Nat), d + f.dp ≤ 129 → AllF (fun d _ _ => d ≤ 128) d f
  | .nil, _, _ => trivial
  | .cons n k r, d, h => by
    simp only [Fo.dp] at h
    exact ⟨by omega, allD k (d + 1) (by omega), allD r d (by omega)⟩
/-- How giving all of a pattern ends. -/
def Give2 {Pr : Nat → Nd → Nat → Prop} (S : Nat → Prop) (J Jx : List (Em Pr) → World → Prop) (pre : List (Em Pr)) (kl : List (Nat × Nd × Nat)) (W : World) (e : Ending) (W' : World) : Prop :=
  (e = .returned (.bool true) ∧ (∃ xs, xs.map keyE = kl ∧ J (pre ++ xs) W') ∧ Kc S W W') ∨ (e = .returned (.bool false) ∧ ∃ p, Jx p W')
set_option maxHeartbeats 8000000 in
set_option maxRecDepth 100000 in
theorem give2_in {Pr : Nat → Nd → Nat → Prop} (S : Nat → Prop) (l Y G B0 : Nat) (J Jx : List (Em Pr) → World → Prop) (B : Nat) (hAJ : AbidesFrom B J) (NN : Nat)
    (hYY : ∀ m pre x W1, J pre W1 → pre.length < NN → YieldAt Fence.wide m Tryd.prog l (encE x) W1 fun e W' => (e = .returned (.bool true) ∧ J (pre ++ [x]) W' ∧ Kc S W1 W') ∨ (e = .returned (.bool false) ∧ Jx (pre ++ [x]) W'))
    (hYS : ¬ S Y) (hGS : ¬ S G) (hS : ∀ k, B0 ≤ k → ¬ S k) :
    ∀ N nd kids, szT (nd, kids) ≤ N → ∀ (n d : Nat) (W : World) (pre : List (Em Pr)) (v : Value) (zs : List Value), Hid (Pr d nd kids.len) → AllF Pr (d + 1) kids → W.ownsRow 0 27 8 v kids.len zs → (∀ b, v.ownBlock = some b → ¬ S b) → Kd W (fun b => ¬ S b) kids zs →
      W.heap[Y]? = some (.cells #[.func (.yield l) #[] #[]] 132 (0, 0)) → W.heap[G]? = some (.cells #[.func (.func 91) #[] #[.pointer (some ⟨Y, 0, none⟩), .pointer (some ⟨G, 0, none⟩)]] 132 (0, 0)) → Hid (J pre W) → pre.length + szT (nd, kids) ≤ NN → d + szT (nd, kids) ≤ 10000 → B0 ≤ W.heap.size →
      CallsIn Fence.wide n Tryd.prog 91 #[.int .i64 (d : Int), reV nd.k nd.s v nd.mn nd.mx, .pointer (some ⟨Y, 0, none⟩), .pointer (some ⟨G, 0, none⟩)] W (Give2 S J Jx pre (emsT d (nd, kids)) W) := by
  intro N
  induction N with
  | zero => intro nd kids h; simp [szT] at h
  | succ N ih =>
    intro nd kids hN n d W pre v zs hPr hA ho hp hk hYb hGb hJ hNN hd hB0
    obtain ⟨ad, cap, rfl, hc1, hc2⟩ := owns8_val ho
    have hpos : 1 ≤ szT (nd, kids) := by simp [szT]
    have hlen : kids.len ≤ 10000 := by have := len_le_sz kids; simp only [szT] at hd; omega
    have hAJ' := hide hAJ
    replace hA := hide hA
    replace hp := hide hp
    replace hk := hide hk
    replace hS := hide hS
    replace ih := hide ih
    replace ho := hide ho
    replace hYYh := hide hYY
    refine callsIn_of_wp Tryd.func91 rfl trivial ?_ rfl
    simp only [Tryd.ntmps91, List.size_toArray, List.length_cons, List.length_nil, Nat.reduceAdd, Nat.reduceSub, Array.replicate_succ, Array.replicate_zero, List.push_toArray, List.append_toArray, List.nil_append, List.cons_append]
    gi_wp2_with (first | ((with_reducible refine atI_box 27 ?_); go_loud (refine wlI_box28 wide_fn rfl ?_; intro g5 w1 hb5 B1 hge; have hJ1 := abides_below hAJ hJ.out B1; have hc1 := Kc.below (S := S) B1 (Nat.le_refl _); have hY1 := hc1.2 Y _ _ _ hYS hYb; have cY := cell_row hY1 0 (v := .func (.yield l) #[] #[]) rfl; obtain ⟨fn, tmps, assign, body, hy, hR⟩ := hYY (n - 1) pre ⟨d, nd, ad, kids.len, cap, hPr.out⟩ w1 hJ1 (by omega); simp only [encE] at hy; replace hb5 := hide hb5; replace B1 := hide B1; replace hJ1 := hide hJ1; replace hc1 := hide hc1; replace hY1 := hide hY1)) | ((with_reducible refine atI_load 132 ?_); refine wlI_load 132 wide_fn rfl (ld70 cY) ?_) | ((with_reducible refine atI_load 27 ?_); refine wlI_load 27 wide_fn rfl (load28 hb5.out) ?_))
    refine ⟨fun h => (by cases h), hR.mono ?_⟩
    rintro e W3 (⟨rfl, hJ3, hk3⟩ | ⟨rfl, hJx3⟩)
    · have hcc : Hid (Kc S W W3) := hc1.out.trans hk3
      have hb3 : Hid (W3.heap[g5]? = some (.cells (reA nd.k nd.s (.slice ad kids.len cap) nd.mn nd.mx) 27 (0, 0))) := hk3.2 g5 _ _ _ (hS.out g5 (by omega)) hb5.out
      have cL := cell_row hb3.out 5 (v := .slice ad kids.len cap) rfl
      have hG3 := hide (hcc.out.2 G _ _ _ hGS hGb)
      have hs3 := hcc.out.1
      have ho3 := hide (owns8_kc ho.out hcc.out hp.out)
      have hkd3 := hide (Kd.kc hcc.out hk.out)
      replace hk3 := hide hk3
      replace hJ3 := hide hJ3
      clear hy hR cY
      gi_wp2_with (first | ((with_reducible refine atI_load 25 ?_); refine wlI_load 25 wide_fn rfl (ld26 cL) ?_))
      gi_loopw [17] (fun i wr => ∃ k xs, i = .int .i64 ((k : Nat) : Int) ∧ k ≤ kids.len ∧ Hid (xs.map keyE = (d, nd, kids.len) :: kids.emsTo (d + 1) k ∧ xs.length = 1 + kids.szTo k) ∧ Hid (J (pre ++ xs) wr) ∧ Hid (Kc S W3 wr)) (fun i _ => kids.len - (intOf i).toNat)
      case atStart => exact ⟨0, [⟨d, nd, ad, kids.len, cap, hPr.out⟩], rfl, Nat.zero_le _, ⟨rfl, rfl⟩, hJ3, Kc.refl _ _⟩
      case round =>
        obtain ⟨k, xs, rfl, hkl, hxs, hJr, hkr⟩ := hrel
        by_cases hlt : k < kids.len
        · have i1 : (k : Int) < (kids.len : Int) := by omega
          have hltH := hide hlt
          have hor := owns8_kc ho3.out hkr.out hp.out
          have hkdr := Kd.kc hkr.out hkd3.out
          obtain ⟨cv, czs, hcells, cho, chp, chk⟩ := Kd.nth hkdr k hlt
          obtain ⟨cPr, cA⟩ := AllF.nth hA.out k hlt
          have hsz1 := szTo_le kids (k + 1) (by omega)
          have hsz2 : kids.szTo (k + 1) = kids.szTo k + szT (kids.nth k) := rfl
          have hem2 : kids.emsTo (d + 1) (k + 1) = kids.emsTo (d + 1) k ++ emsT (d + 1) (kids.nth k) := rfl
          generalize kids.nth k = ch at hcells cho chp chk cPr cA hsz2 hem2
          obtain ⟨cnd, ckids⟩ := ch
          simp only at hcells cho chp chk cPr cA
          have hb : ∃ b, ad = some ⟨b, 0, none⟩ ∧ ∀ j u, (reA cnd.k cnd.s cv cnd.mn cnd.mx)[j]? = some u → wr.cell? ⟨b, k * 8 + j, none⟩ = some u := by
            rcases hor.2 with ⟨h1, h2⟩ | ⟨g, cap', cur, hv, _⟩
            · omega
            · cases hv
              refine ⟨g, rfl, fun j u hj => ?_⟩
              have := hor.cells (g := g) rfl _ _ (hcells j u hj)
              rwa [add_plain, Nat.zero_add] at this
          obtain ⟨b, rfl, hcell⟩ := hb
          obtain ⟨ca, cc, hcv, _, _⟩ := owns8_val cho
          subst hcv
          have hl28 := hide (load28c hcell)
          have hsz3 : szT (nd, kids) = 1 + kids.sz := rfl
          have hGr := hkr.out.2 G _ _ _ hGS hG3.out
          have hYr := hkr.out.2 Y _ _ _ hYS (hk3.out.2 Y _ _ _ hYS hY1.out)
          have hsr := hkr.out.1
          have hxl := hxs.out.2
          replace hem2 := hide hem2
          replace hcells := hide hcells
          replace hcell := hide hcell
          replace cho := hide cho
          replace chp := hide chp
          replace chk := hide chk
          replace cPr := hide cPr
          replace cA := hide cA
          replace hor := hide hor
          replace hkdr := hide hkdr
          replace hGr := hide hGr
          replace hYr := hide hYr
          gi_wp2_with (first | ((with_reducible refine atI_load 27 ?_); refine wlI_load 27 wide_fn rfl (hl28.out) ?_) | ((with_reducible refine atI_new28 ?_); refine wlI_new28 wide_fn rfl (fun _ => rfl) (fun _ => rfl) ?_; intro g8 w8 hb8 B8 hg8; have hk8 := hide (Kc.below (S := S) B8 (Nat.le_refl _)); have cG := cell_row (hk8.out.2 G _ _ _ hGS hGr.out) 0 (v := .func (.func 91) #[] #[.pointer (some ⟨Y, 0, none⟩), .pointer (some ⟨G, 0, none⟩)]) rfl; have hl8 := hide (load28 hb8); replace hb8 := hide hb8; replace B8 := hide B8) | ((with_reducible refine atI_load 132 ?_); refine wlI_load 132 wide_fn rfl (ld70 cG) ?_) | ((with_reducible refine atI_load 27 ?_); refine wlI_load 27 wide_fn rfl (hl8.out) ?_))
          have hs8 := B8.out.size
          refine ⟨trivial, fun h => (by cases h), (ih.out cnd ckids (by omega) _ (d + 1) w8 (pre ++ xs) _ czs cPr.out cA.out (owns8_kc cho.out hk8.out chp.out) chp.out (Kd.kc hk8.out chk.out) (hk8.out.2 Y _ _ _ hYS hYr.out) (hk8.out.2 G _ _ _ hGS hGr.out) (abides_below hAJ hJr.out B8.out) (by rw [List.length_append]; omega) (by omega) (by omega)).mono ?_⟩
          rintro e W9 (⟨rfl, ⟨ys, hys, hJ9⟩, hk9⟩ | ⟨rfl, p, hJx9⟩)
          · have hJ10 : Hid (J (pre ++ (xs ++ ys)) W9) := by
              have := hJ9
              rw [List.append_assoc] at this
              exact this
            have hk10 : Hid (Kc S W3 W9) := hkr.out.trans (hk8.out.trans hk9)
            have hl10 : Hid ((xs ++ ys).map keyE = (d, nd, kids.len) :: kids.emsTo (d + 1) (k + 1) ∧ (xs ++ ys).length = 1 + kids.szTo (k + 1)) := by
              refine ⟨?_, ?_⟩
              · rw [List.map_append, hxs.out.1, hys, hem2.out]; rfl
              · have hyl : ys.length = szT (cnd, ckids) := by rw [← emsT_len (cnd, ckids) (d + 1), ← hys, List.length_map]
                rw [List.length_append, hxl, hyl, hsz2]; omega
            clear hJ9 hk9 hys
            gi_wp2
            go_roundw
            case rel => exact ⟨k + 1, xs ++ ys, by go_num, hltH.out, hl10, hJ10, hk10⟩
            case measure => have := hltH.out; simp [intOf]; omega
          · gi_wp2
            go_ret
            exact .inr ⟨rfl, _, hJx9⟩
        · obtain rfl : k = kids.len := by omega
          gi_wp2
          go_ret
          exact .inl ⟨rfl, ⟨xs, by rw [hxs.out.1, emsTo_len]; rfl, hJr.out⟩, hcc.out.trans hkr.out⟩
    · gi_wp2
      go_ret
      exact .inr ⟨rfl, _, hJx3⟩
set_option maxHeartbeats 4000000 in
set_option maxRecDepth 100000 in
theorem within2_stops {Pr : Nat → Nd → Nat → Prop} (S : Nat → Prop) (n : Nat) (B : Nat) (t : Tr) (v : Value) (zs : List Value) (w : World) (hB : w.heap[B]? = some (.cells (reA t.1.k t.1.s v t.1.mn t.1.mx) 27 (0, 0))) (ho : w.ownsRow 0 27 8 v t.2.len zs) (hp : ∀ b, v.ownBlock = some b → ¬ S b) (hk : Kd w (fun b => ¬ S b) t.2 zs) (hPr : Pr 1 t.1 t.2.len) (hA : AllF Pr 2 t.2) (hsz : szT t ≤ 9000) (hBS : ¬ S B) (hS : ∀ k, w.heap.size ≤ k → ¬ S k) :
    SeqStopsK Fence.wide n Tryd.prog 90 #[.pointer (some ⟨B, 0, none⟩)] (encE (Pr := Pr)) (Kc S) (fun xs => xs.map keyE = emsT 1 t) (fun _ => True) (szT t) w := fun l J Jx W hW hAJ hAJx hYY h0 => by
  obtain ⟨nd, kids⟩ := t
  simp only at *
  have hmf : ∀ (fn : Fn) (first cap : Array Value) (w : World), (Instr.makeFunc fn first cap).run Tryd.prog w = .ok (.func fn first cap) w := fun _ _ _ _ => rfl
  have hBl : B < w.heap.size := (Array.getElem?_eq_some_iff.1 hB).1
  have hsw := hW.size
  have kW : Hid (Kc S w W) := Kc.below hW (Nat.le_refl _)
  obtain ⟨va, vc, hv, _, _⟩ := owns8_val ho
  subst hv
  replace hYY : Hid _ := hide hYY
  replace ho := hide ho
  replace hp := hide hp
  replace hk := hide hk
  replace hPr := hide hPr
  replace hA := hide hA
  replace hS := hide hS
  replace hW := hide hW
  replace hAJh := hide hAJ
  replace h0 := hide h0
  show CallsIn Fence.wide n Tryd.prog 90 #[.func (.yield l) #[] #[], .pointer (some ⟨B, 0, none⟩)] W _
  refine callsIn_of_wp Tryd.func90 rfl trivial ?_ rfl
  simp only [Tryd.ntmps90, List.size_toArray, List.length_cons, List.length_nil, Nat.reduceAdd, Nat.reduceSub, Array.replicate_succ, Array.replicate_zero, List.push_toArray, List.append_toArray, List.nil_append, List.cons_append]
  gi_wp2_with (first | ((with_reducible refine atI_box 132 ?_); refine wlI_box70 wide_fn rfl ?_; intro Y w1 hbY B1 hgY; replace hbY := hide hbY; replace B1 := hide B1) | ((with_reducible refine atI_alloc 132 ?_); refine wlI_alloc70 wide_fn ?_; intro G w2 hbG B2 hgG; replace hbG := hide hbG; replace B2 := hide B2) | ((with_reducible refine atI_store 132 ?_); refine wlI_st70 wide_fn hbG.out rfl rfl ?_; intro w3 hbG3 B3; have hs1 := B1.out.size; have hs2 := B2.out.size; have hl1 := (Array.getElem?_eq_some_iff.1 hbY.out).1; have hY2 : Hid (w2.heap[Y]? = some (.cells #[.func (.yield l) #[] #[]] 132 (0, 0))) := (B2.out.block Y hl1).trans hbY.out; have hY3 : Hid (w3.heap[Y]? = some (.cells #[.func (.yield l) #[] #[]] 132 (0, 0))) := (B3.block Y (by omega) (by omega)).trans hY2.out; have BW : Hid (Below W.heap.size W w3) := (B1.out.trans (B2.out.mono hs1)).trans (B3.below (by omega) (fun k e => by omega)); have k3 : Hid (Kc S w w3) := kW.out.trans (Kc.below BW.out (Nat.le_refl _)); have hB3 := k3.out.2 B _ _ _ hBS hB; have cG := cell_row hbG3 0 (v := .func (.func 91) #[] #[.pointer (some ⟨Y, 0, none⟩), .pointer (some ⟨G, 0, none⟩)]) rfl; replace hbG3 := hide hbG3; have hl28 := hide (load28 hB3); replace hB3 := hide hB3; replace B3 := hide B3) | ((with_reducible refine atI_load 132 ?_); refine wlI_load 132 wide_fn rfl (ld70 cG) ?_) | ((with_reducible refine atI_load 27 ?_); refine wlI_load 27 wide_fn rfl (hl28.out) ?_))
  have hs3 := BW.out.size
  refine ⟨trivial, fun h => (by cases h), (give2_in S l Y G w.heap.size J Jx W.heap.size hAJ (szT (nd, kids)) (fun m pre x W1 hj hl => yield_wide (hYY.out pre x W1 hj hl)) (hS.out Y (by omega)) (hS.out G (by omega)) hS.out (szT (nd, kids)) nd kids (Nat.le_refl _) _ 1 w3 [] _ zs hPr.out hA.out (owns8_kc ho.out k3.out hp.out) hp.out (Kd.kc k3.out hk.out) hY3.out hbG3.out (abides_below hAJ h0.out BW.out) (by simp) (by omega) (by omega)).mono ?_⟩
  rintro e W9 (⟨rfl, ⟨ys, hys, hJ9⟩, hk9⟩ | ⟨rfl, p, hJx9⟩)
  · replace hJ9 := hide hJ9
    clear hk9
    gi_wp2
    go_end0
    exact ⟨⟨_, rfl⟩, .inl ⟨ys, hys, by simpa using hJ9.out⟩⟩
  · replace hJx9 := hide hJx9
    gi_wp2
    go_end0
    exact ⟨⟨_, rfl⟩, .inr ⟨p, trivial, hJx9.out⟩⟩
set_option maxHeartbeats 8000000 in
set_option maxRecDepth 100000 in
theorem size_no (n : Nat) (hn : 3 ≤ n) (t : Tr) (P : Nat → Prop) (x : Value) (w : World) (T : TrV w P x t) (hf : ¬ fitT t) (hsz : szT t ≤ 4096) (hdp : dpT t ≤ 128) :
    CallsIn Fence.wide n Tryd.prog 35 #[x] w fun e w' => e = .returned (.int .i64 0) ∧ Below w.heap.size w w' := by
  obtain ⟨v, zs, rfl, ho, hp, hk⟩ := T
  obtain ⟨va, vc, hv, _, _⟩ := owns8_val ho
  subst hv
  obtain ⟨nd, kids⟩ := t
  simp only at *
  have hold : Hid (Kd w (fun b => b < w.heap.size) kids zs) := hk.mono (fun b hb _ => hb)
  have hown : Hid (∀ b, (Value.slice va kids.len vc).ownBlock = some b → b < w.heap.size) := fun b hb => (owns8_lt ho hb).2
  have hPr : Hid (1 ≤ 128) := Nat.le_of_ble_eq_true rfl
  have hA : Hid (AllF (fun d _ _ => d ≤ 128) 2 kids) := allD kids 2 (by simp only [dpT] at hdp; omega)
  replace ho := hide ho
  replace hf := hide hf
  clear hk hp
  have H := St.start Nope w
  have m0 := trivial
  refine callsIn_of_wp_marks Tryd.func35 rfl trivial ?_ rfl
  simp only [Tryd.ntmps35, List.size_toArray, List.length_cons, List.length_nil, Nat.reduceAdd, Nat.reduceSub, Array.replicate_succ, Array.replicate_zero, List.push_toArray, List.append_toArray, List.nil_append, List.cons_append]
  gi_wp2_with (first | ((with_reducible refine atI_box 27 ?_); refine wlS_box28 wide_fn H rfl ?_; clear H; intro g1 w1 H hg1) | ((with_reducible refine atI_alloc 3 ?_); clear m0; refine wlS_alloc3 wide_fn H ?_; clear H; intro gr w2 H hgr) | ((with_reducible refine atI_alloc 3 ?_); refine wlS_alloc3 wide_fn H ?_; clear H; intro g w2 H hg) | ((with_reducible refine atI_store 3 ?_); refine wlS_st3 0 wide_fn H rfl rfl rfl ?_; clear H; intro w3 H) | ((with_reducible refine atI_load 27 ?_); refine wlS_load28 2 wide_fn H rfl rfl ?_))
  have hln3 := H.lti 0 rfl
  have hlr3 := H.lti 1 rfl
  refine ⟨trivial, fun h => (by cases h), (within_in _ _ _ _ _ _ _).mono ?_⟩
  rintro e w5 ⟨gB, rfl, hbB, B5, hgB⟩
  replace H := H.call B5 (Nat.le_refl _)
  have hb5 := H.below
  have hs5 := hb5.size
  have hn5 := H.get 0 rfl
  have hr5 := H.get 1 rfl
  have hln := H.lti 0 rfl
  have hlr := H.lti 1 rfl
  have hne : Hid (g ≠ gr) := fun e => by
    have := H.nd
    simp [e] at this
  have hlB := (Array.getElem?_eq_some_iff.1 hbB).1
  have hgBn : Hid (gB ≠ g ∧ gB ≠ gr) := ⟨by omega, by omega⟩
  have hkw : Hid (Kc (fun k => k = g ∨ k = gr) w w5) := Kc.below hb5 (Nat.le_refl _)
  have hst := within2_stops (Pr := fun d _ _ => d ≤ 128) (fun k => k = g ∨ k = gr) (n - 1) gB (nd, kids) (.slice va kids.len vc) zs w5 hbB (owns8_kc ho.out hkw.out (fun b hb => by have := hown.out b hb; omega)) (fun b hb => by have := hown.out b hb; omega) (Kd.kc hkw.out (hold.out.mono (fun b _ h => by omega))) hPr.out hA.out (by omega) (by have := hgBn.out; omega) (fun k hk => by omega)
  have I0 : SzI w g gr 0 w5 := ⟨hn5, hr5, hb5⟩
  gi_wp2
  refine wpIn_rangeFunc_ownH rfl (by omega) (gf := 90) (lb := #[.pointer (some ⟨gB, 0, none⟩)]) rfl (wide_fn 39) (enters_of Tryd.func90 (by kernel_rfl) rfl)
    hst (fun h k => h.trans k) (fun W l o o' hl ho hc _ => ⟨by simp [World.putObj], fun k cs t fr hn e => ?kb⟩) (Below.refl _ w5) (fun _ => rfl)
    (fun pre W => SzI w g gr pre.length W ∧ ∀ x ∈ pre, fitN x.nd x.len)
    (fun c pre W => c = .ret ∧ ∃ k, SzI w g gr k W)
    (fun pre W W' row hs hg hr => ⟨hs.1.own hs5 hg hr, hs.2⟩)
    (fun c pre W W' row hs hg hr => ⟨hs.1, by obtain ⟨k, h⟩ := hs.2; exact ⟨k, h.own hs5 hg hr⟩⟩)
    ⟨I0, fun x hx => (by cases hx)⟩
    (fun x a' W => ∃ g5, a' = { tmps := #[reV nd.k nd.s (.slice va kids.len vc) nd.mn nd.mx, .pointer (some ⟨g1, 0, none⟩), .pointer (some ⟨gr, 0, none⟩), .pointer (some ⟨g, 0, none⟩), .int .i64 (x.d : Int), .pointer (some ⟨g5, 0, none⟩), reV nd.k nd.s (.slice va kids.len vc) nd.mn nd.mx, .func (.func 90) #[] #[.pointer (some ⟨gB, 0, none⟩)], .int .i64 (x.d : Int), reV x.nd.k x.nd.s (.slice x.ad x.len x.cap) x.nd.mn x.nd.mx, undef, undef, undef, undef, undef, undef, undef, undef, undef, undef, undef, undef, undef, undef], defers := [] } ∧ W.heap[g5]? = some (.cells (reA x.nd.k x.nd.s (.slice x.ad x.len x.cap) x.nd.mn x.nd.mx) 27 (0, 0)))
    (fun x a' _ W W' row hs hg hr => ?ax) ?assign ?body ?done ?stop
  case kb =>
    rw [(grownBy_putObj' W l o').block k (Array.getElem?_eq_some_iff.1 e).1 (fun h => by cases h; rw [ho] at e; cases e; cases hc)]
    exact e
  case ax =>
    obtain ⟨g5, e1, e2⟩ := hs
    refine ⟨g5, e1, (hg.block g5 (Array.getElem?_eq_some_iff.1 e2).1 (fun e => ?_)).trans e2⟩
    obtain ⟨_, o, ho, hc⟩ := hr g5 e.symm
    rw [e2] at ho
    cases ho
    cases hc
  case assign =>
    intro l pre x W K hi hK
    simp only [encE, List.zip_toArray, List.zip_cons_cons, List.zip_nil_left, List.zip_nil_right, List.foldl_toArray, List.foldl_cons, List.foldl_nil, List.setIfInBounds_toArray, List.set_cons_zero, List.set_cons_succ]
    replace hK := hide hK
    replace hi := hide hi
    gi_wp2_with (first | ((with_reducible refine atI_new28 ?_); refine wlI_new28 (round_fn l) rfl (fun _ => rfl) (fun _ => rfl) ?_; intro g5 w8 hb8 B8 hg8; replace hb8 := hide hb8; replace B8 := hide B8))
    have hbl := hi.out.1.bel.size
    exact hK.out _ w8 (but_keeps (below_but B8.out (Nat.le_refl _) (fun _ => False)) (fun k h => h.elim)) (Kc.below B8.out (Nat.le_refl _)) ⟨hi.out.1.own hs5 (below_grown B8.out) (fun r e => (by cases e)), hi.out.2⟩ ⟨g5, rfl, hb8.out⟩
  case body =>
    rintro l pre x a' W hl ⟨r, hr⟩ ⟨hi, hall⟩ ⟨g5, rfl, hb5'⟩ hlt
    have hne5 : g5 ≠ g := fun e => by
      have h := hi.n.symm.trans (e ▸ hb5')
      simp at h
    have cN := cell_row hi.n 0 (v := .int .i64 (pre.length : Int)) rfl
    have hPx := x.h
    have hd : (x.d : Int) ≤ 128 := by have := hPx; omega
    have hd2 : ¬ ((128 : Int) < (x.d : Int)) := by omega
    have hc2 : ¬ ((4096 : Int) < (pre.length : Int) + 1) := by omega
    have hll : pre.length < 4096 := by omega
    have hNs := hide hi.n
    replace hall := hide hall
    by_cases hfx : fitN x.nd x.len
    · have FI := hide (fun w => isFit_any x.nd x.ad x.len x.cap hfx w)
      replace hfx := hide hfx
      replace hPx := hide hPx
      replace hi := hide hi
      replace hb5' := hide hb5'
      replace hr := hide hr
      gi_wp2_with (first | ((with_reducible refine atI_store 3 ?_); refine wlI_st3 (round_fn l) hNs.out rfl rfl ?_; intro w7 hn7 B7; have cN7 := cell_row hn7 0 (v := .int .i64 ((pre.length : Int) + 1)) rfl; replace hn7 := hide hn7; have hb7 := hide ((B7.block g5 (Array.getElem?_eq_some_iff.1 hb5'.out).1 hne5).trans hb5'.out); replace B7 := hide B7) | ((with_reducible refine atI_loadG 27 ?_); refine wlI_loadG 27 (round_fn l) rfl rfl (load28 hb7.out) ?_))
      refine ⟨trivial, fun h => (by cases h), (callsIn_wide.2 (FI.out w7)).mono ?_⟩
      rintro e w9 ⟨rfl, B9⟩
      have B79 : Hid (But (fun k => k = g) W w9) := B7.out.trans (below_but B9 (Nat.le_refl _) (fun _ => False)) (fun i _ h => h.elim)
      replace B9 := hide B9
      gi_wp2
      have hlg := (Array.getElem?_eq_some_iff.1 hn7.out).1
      have hlr9 := (Array.getElem?_eq_some_iff.1 hi.out.r).1
      refine ⟨but_keeps B79.out (fun k e => .inl (by omega)), but_kc B79.out (fun k e => .inl e), ⟨?_, ?_, ?_⟩, fun y hy => ?_⟩
      · rw [B9.out.block g hlg, hn7.out]
        simp
      · rw [B79.out.block gr hlr9 (fun e => hne.out e.symm), hi.out.r]
      · exact hi.out.bel.trans (B79.out.below hi.out.bel.size (fun k e => by omega))
      · rcases List.mem_append.1 hy with h | h
        · exact hall.out y h
        · rw [List.mem_singleton.1 h]; exact hfx.out
    · have FI := hide (fun w => isFit_no x.nd x.ad x.len x.cap hfx w)
      replace hfx := hide hfx
      replace hPx := hide hPx
      have cR := cell_row hi.r 0 (v := .int .i64 0) rfl
      have hlr0 := (Array.getElem?_eq_some_iff.1 hi.r).1
      have hrh := hide hi.r
      replace hi := hide hi
      replace hb5' := hide hb5'
      replace hr := hide hr
      clear cR
      gi_wp2_with (first | ((with_reducible refine atI_store 3 ?_); refine wlI_st3 (round_fn l) hNs.out rfl rfl ?_; intro w7 hn7 B7; have cN7 := cell_row hn7 0 (v := .int .i64 ((pre.length : Int) + 1)) rfl; replace hn7 := hide hn7; have hb7 := hide ((B7.block g5 (Array.getElem?_eq_some_iff.1 hb5'.out).1 hne5).trans hb5'.out); replace B7 := hide B7) | ((with_reducible refine atI_loadG 27 ?_); refine wlI_loadG 27 (round_fn l) rfl rfl (load28 hb7.out) ?_))
      refine ⟨trivial, fun h => (by cases h), (callsIn_wide.2 (FI.out w7)).mono ?_⟩
      rintro e w9 ⟨rfl, B9⟩
      have B79 : Hid (But (fun k => k = g) W w9) := B7.out.trans (below_but B9 (Nat.le_refl _) (fun _ => False)) (fun i _ h => h.elim)
      have hlg := (Array.getElem?_eq_some_iff.1 hn7.out).1
      have hN9 : Hid (w9.heap[g]? = some (.cells #[.int .i64 ((pre.length : Int) + 1)] 3 (0, 0))) := by
        show w9.heap[g]? = _
        rw [B9.block g hlg, hn7.out]
      have hR9 : Hid (w9.heap[gr]? = some (.cells #[.int .i64 0] 3 (0, 0))) := by
        show w9.heap[gr]? = _
        rw [B79.out.block gr hlr0 (fun e => hne.out e.symm), hrh.out]
      have hbel9 : Hid (Below w.heap.size w w9) := hi.out.bel.trans (B79.out.below hi.out.bel.size (fun k e => by omega))
      replace B9 := hide B9
      gi_wp2_with (first | ((with_reducible refine atI_store 3 ?_); refine wlI_st3 (round_fn l) hR9.out rfl rfl ?_; intro w10 hn10 B10; replace hn10 := hide hn10; replace B10 := hide B10))
      have BB : But (fun k => k = g ∨ k = gr) W w10 := (B79.out.mono (fun k h => .inl h)).trans B10.out (fun i _ h => .inr h)
      have hlg9 := (Array.getElem?_eq_some_iff.1 hN9.out).1
      refine ⟨but_keeps BB (fun k e => .inl (by omega)), rfl, pre.length + 1, ⟨?_, hn10.out, hbel9.out.trans (B10.out.below hbel9.out.size (fun k e => by omega))⟩⟩
      rw [B10.out.block g hlg9 hne.out, hN9.out]
      simp
  case done =>
    rintro D xs W hD hS ⟨hI, hall⟩ hK
    exfalso
    apply hf.out
    have h1 : ∀ y ∈ emsT 1 (nd, kids), fitN y.2.1 y.2.2 := fun y hy => by
      rw [← hS] at hy
      obtain ⟨z, hz, rfl⟩ := List.mem_map.1 hy
      exact hall z hz
    exact ⟨h1 (1, nd, kids.len) (by simp [emsT]), all_fit kids 2 (ems_all kids 2 (fun y hy => h1 y (by simp [emsT, hy])))⟩
  case stop =>
    rintro D c pre W hD hc ⟨rfl, k, hI⟩ hK
    have hl92 := (Array.getElem?_eq_some_iff.1 hI.r).1
    have hIH := hide hI
    replace hK := hide hK
    clear hI
    gi_wp2
    have B77 := grownBy_putObj' W D (.deferred none)
    have hn9 : (W.putObj D (.deferred none)).heap[gr]? = some (.cells #[.int .i64 0] 3 (0, 0)) := (B77.block gr hl92 (fun e => by cases e; omega)).trans hIH.out.r
    refine ⟨by simp, .inl ⟨_, _, rfl, run_takeDeferred hK.out, ?_⟩⟩
    refine ⟨_, results_cell0 rfl _ _ gr (.int .i64 0) rfl (ld3 (cell_row hn9 0 rfl)), rfl, ?_⟩
    exact hIH.out.bel.grown B77 hIH.out.bel.size (fun k e => by cases e; omega)
theorem sizeN_any (t : Tr) (P : Nat → Prop) (x : Value) (w : World) (T : TrV w P x t) (hf : ¬ fitT t) (hsz : szT t ≤ 4096) (hdp : dpT t ≤ 128) :
    Calls Tryd.prog 35 #[x] w fun e w' => e = .returned (.int .i64 0) ∧ Below w.heap.size w w' := callsIn_wide.1 (size_no 5 (by omega) t P x w T hf hsz hdp)
set_option maxHeartbeats 2000000 in
theorem check_no (t : Tr) (P : Nat → Prop) (x : Value) (w : World) (T : TrV w P x t) (hf : ¬ fitT t) (hsz : szT t ≤ 4096) (hdp : dpT t ≤ 128) :
    Calls Tryd.prog 19 #[x] w fun e w' => e = .returned (.bool false) ∧ Below w.heap.size w w' := by
  have H := St.start Nope w
  have SZ := hide (fun w' T => sizeN_any t P x w' T hf hsz hdp)
  have hT : Hid (TrV w P x t) := T
  obtain ⟨va, vn, vc, rfl⟩ := T.val
  clear T
  replace hf := hide hf
  go_enter Tryd.func19, Tryd.ntmps19
  go_wp2_with (first | ((with_reducible refine at_box 27 ?_); refine wl_box28 H rfl ?_; clear H; intro g w' H q1 q2) | ((with_reducible refine at_load 27 ?_); refine wl_load28 0 H rfl rfl ?_))
  refine (SZ.out _ (hT.out.kept (fun b _ hb => H.below.block b hb))).mono ?_
  rintro e w1 ⟨rfl, B1⟩
  go_wp2_with fail
  go_ret
  exact ⟨rfl, H.below.trans (B1.mono H.below.size)⟩
end Go.Proofs.YthgdfgkjaepchaaDoor
