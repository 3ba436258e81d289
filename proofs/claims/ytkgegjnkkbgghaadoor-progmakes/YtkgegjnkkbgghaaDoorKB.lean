/-
  The reference's code: a row of instructions that is written from a number on. The reference's code, Kind 2. The reference's code, Kind 3. The reference's code, Kind 4 without an upper bound. The reference's code, Kind 4 with an upper bound. The reference's code of any pattern that may be; its Count and Make. The reference's Make.
-/
import Derived.Test.YtkgegjnkkbgghaaDoorKA
import Derived.Test.YtkgegjnkkbgghaaDoorCK
import Derived.Deep.MidRow
import Derived.Test.YtkgegjnkkbgghaaDoorFD
namespace Go.Proofs.YtkgegjnkkbgghaaDoor
open Go.RowKit
set_option linter.unusedVariables false
set_option linter.unusedSimpArgs false

macro "my_round " t:term : tactic => `(tactic| (refine ⟨?_, ?measure⟩; first | exact $t | ((repeat apply Exists.intro); refine ⟨?rel, rfl⟩; exact $t)))
/-- P lies from a on. -/
def layI (I : List Ins) (a : Nat) (P : List Ins) : List Ins := I.take a ++ P ++ I.drop (a + P.length)
theorem layI_len {I : List Ins} {a : Nat} {P : List Ins} (h : a + P.length ≤ I.length) : (layI I a P).length = I.length := by
  simp [layI]; omega
theorem layI_nil (I : List Ins) (a : Nat) : layI I a [] = I := by simp [layI]
theorem layI_lay {I : List Ins} {a : Nat} {P Q : List Ins} (h : a + P.length ≤ I.length) : layI (layI I a P) (a + P.length) Q = layI I a (P ++ Q) := by
  have h1 : (I.take a ++ P).length = a + P.length := by simp; omega
  have h2 : (layI I a P).take (a + P.length) = I.take a ++ P := by
    unfold layI; rw [← h1, List.take_left]
  have h3 : (layI I a P).drop (a + P.length + Q.length) = I.drop (a + P.length + Q.length) := by
    unfold layI
    rw [← List.drop_drop, ← h1, List.drop_left, h1, List.drop_drop]
  show (layI I a P).take (a + P.length) ++ Q ++ (layI I a P).drop (a + P.length + Q.length) = _
  rw [h2, h3]
  simp [layI, Nat.add_assoc]
theorem layI_lay' {I : List Ins} {a b : Nat} {P Q : List Ins} (hb : b = a + P.length) (h : a + P.length ≤ I.length) : layI (layI I a P) b Q = layI I a (P ++ Q) := by subst hb; exact layI_lay h

/-- The first i of a list of codes: all of it, where i is all. -/
def pz (L : List Cd) (i a m : Nat) : List Ins := if i = L.length then sqP L a m else preP (L.take i) a
theorem pz_zero {L : List Cd} (h : L ≠ []) (a m : Nat) : pz L 0 a m = [] := by
  have : 0 ≠ L.length := fun e => h (List.eq_nil_of_length_eq_zero e.symm)
  simp [pz, this, preP]
theorem pz_len {L : List Cd} {i : Nat} (h : i < L.length) (a m : Nat) : (pz L i a m).length = sumN (L.take i) := by
  unfold pz; rw [if_neg (by omega), preP_len]
theorem pz_all (L : List Cd) (a m : Nat) : pz L L.length a m = sqP L a m := by simp [pz]
theorem sumN_tk {L : List Cd} {i : Nat} {c : Cd} (h : L[i]? = some c) : sumN (L.take (i + 1)) = sumN (L.take i) + c.n := by
  rw [List.take_add_one, h, sumN_append]; simp [sumN]
theorem sumN_take_le (L : List Cd) (i : Nat) : sumN (L.take i) ≤ sumN L := by
  have := sumN_append (L.take i) (L.drop i)
  rw [List.take_append_drop] at this
  omega
theorem pz_step {L : List Cd} {i : Nat} {c : Cd} (h : L[i]? = some c) (a m : Nat) : pz L (i + 1) a m = pz L i a m ++ c.put (a + sumN (L.take i)) (if i + 1 = L.length then m else a + sumN (L.take i) + c.n) := by
  have hi := (List.getElem?_eq_some_iff.1 h).1
  have ht : L.take (i + 1) = L.take i ++ [c] := by rw [List.take_add_one, h]; rfl
  unfold pz
  rw [if_neg (show i ≠ L.length by omega)]
  split
  · rename_i e
    have : L = L.take i ++ [c] := by rw [← ht, e, List.take_length]
    conv => lhs; rw [this]
    rw [sqP_snoc]
  · rw [ht, preP_snoc]
/-- The first i of a choice. -/
def cz (L : List Cd) (i a m : Nat) : List Ins := if i = L.length then chP L a m else cpP (L.take i) a m
theorem cz_zero {L : List Cd} (h : L ≠ []) (a m : Nat) : cz L 0 a m = [] := by
  have : 0 ≠ L.length := fun e => h (List.eq_nil_of_length_eq_zero e.symm)
  simp [cz, this, cpP]
theorem cz_len {L : List Cd} {i : Nat} (h : i < L.length) (a m : Nat) : (cz L i a m).length = cpN (L.take i) := by
  unfold cz; rw [if_neg (by omega), cpP_len]
theorem cz_all (L : List Cd) (a m : Nat) : cz L L.length a m = chP L a m := by simp [cz]
theorem cpN_tk {L : List Cd} {i : Nat} {c : Cd} (h : L[i]? = some c) : cpN (L.take (i + 1)) = cpN (L.take i) + (1 + c.n) := by
  rw [List.take_add_one, h, cpN_append]; simp [cpN]
theorem cz_step {L : List Cd} {i : Nat} {c : Cd} (h : L[i]? = some c) (hi : i + 1 < L.length) (a m : Nat) : cz L (i + 1) a m = cz L i a m ++ (⟨2, noSet, ((a + cpN (L.take i) + 1 : Nat) : Int), ((a + cpN (L.take i) + 1 + c.n : Nat) : Int)⟩ :: c.put (a + cpN (L.take i) + 1) m) := by
  have ht : L.take (i + 1) = L.take i ++ [c] := by rw [List.take_add_one, h]; rfl
  unfold cz
  rw [if_neg (show i ≠ L.length by omega), if_neg (show i + 1 ≠ L.length by omega), ht, cpP_snoc]
  rfl
theorem cz_last {L : List Cd} {i : Nat} {c : Cd} (h : L[i]? = some c) (hi : i + 1 = L.length) (a m : Nat) : cz L (i + 1) a m = cz L i a m ++ c.put (a + cpN (L.take i)) m := by
  have ht : L.take (i + 1) = L.take i ++ [c] := by rw [List.take_add_one, h]; rfl
  unfold cz
  rw [if_neg (show i ≠ L.length by omega), if_pos hi]
  have : L = L.take i ++ [c] := by rw [← ht, hi, List.take_length]
  conv => lhs; rw [this]
  rw [chP_snoc]
theorem cpN_le {L : List Cd} {i : Nat} {c : Cd} (h : L[i]? = some c) : cpN (L.take i) + c.n ≤ chN L ∧ (i + 1 < L.length → cpN (L.take i) + 1 + c.n ≤ chN L) := by
  have hi := (List.getElem?_eq_some_iff.1 h).1
  have h0 : L = L.take i ++ (c :: L.drop (i + 1)) := by
    have e := (List.getElem?_eq_some_iff.1 h).2
    rw [← e, List.getElem_cons_drop, List.take_append_drop]
  have hd : ∀ (p : List Cd) (q : List Cd), q ≠ [] → chN (p ++ q) = cpN p + chN q := by
    intro p
    induction p with
    | nil => intro q _; simp [cpN]
    | cons d r ih =>
      intro q hq
      have := ih q hq
      cases r with
      | nil =>
        cases q with
        | nil => exact absurd rfl hq
        | cons e s => simp [chN, cpN]
      | cons e s => simp only [List.cons_append, chN, cpN] at this ⊢; omega
  have h1 := hd (L.take i) (c :: L.drop (i + 1)) (by simp)
  rw [← h0] at h1
  rw [h1]
  cases hd2 : L.drop (i + 1) with
  | nil =>
    refine ⟨by simp [chN], fun hh => ?_⟩
    have := congrArg List.length hd2
    simp at this; omega
  | cons e s => exact ⟨by simp [chN]; omega, fun _ => by simp [chN]; omega⟩
/-- Cells that are written one by one. -/
def setsA (xs : Array Value) : Nat → List Value → Array Value
  | _, [] => xs
  | o, v :: r => setsA (xs.setIfInBounds o v) (o + 1) r
theorem setsA_mid : ∀ (vs cs p q : List Value), cs.length = vs.length → setsA (p ++ cs ++ q).toArray p.length vs = (p ++ vs ++ q).toArray
  | [], cs, p, q, h => by
    have : cs = [] := List.eq_nil_of_length_eq_zero h
    subst this; rfl
  | v :: r, [], p, q, h => by simp at h
  | v :: r, c :: cs, p, q, h => by
    have e : (p ++ c :: cs ++ q).toArray.setIfInBounds p.length v = ((p ++ [v]) ++ cs ++ q).toArray := by
      apply Array.ext'
      simp
    have := setsA_mid r cs (p ++ [v]) q (by simpa using h)
    show setsA ((p ++ c :: cs ++ q).toArray.setIfInBounds p.length v) (p.length + 1) r = _
    rw [e]
    simpa using this
theorem sets_ins {I : List Ins} {a : Nat} (h : a < I.length) (x : Ins) : setsA (flatI I).toArray (a * 7) (insA x).toList = (flatI (layI I a [x])).toArray := by
  have h0 : I = I.take a ++ (I[a] :: I.drop (a + 1)) := by rw [List.getElem_cons_drop, List.take_append_drop]
  have h1 : flatI I = flatI (I.take a) ++ (insA I[a]).toList ++ flatI (I.drop (a + 1)) := by
    rw [show flatI I = flatI (I.take a ++ (I[a] :: I.drop (a + 1))) from congrArg flatI h0, flatI_append, List.append_assoc]
    rfl
  have h2 : flatI (layI I a [x]) = flatI (I.take a) ++ (insA x).toList ++ flatI (I.drop (a + 1)) := by
    unfold layI
    rw [flatI_append, flatI_append]
    simp [flatI]
  have h3 : a * 7 = (flatI (I.take a)).length := by rw [flatI_len]; simp; omega
  rw [h1, h2, h3]
  exact setsA_mid _ _ _ _ rfl
section
variable {S : Nat → Prop} {w0 w : World} {L : List Ent} {ops : Array Oper} {rest : List Oper} {a : Act} {Q : Exit → Act → World → Prop} {x y z : Operand} {ty : TypeId} {pos : String} {after : Array Edge} {dst : Option Nat}
theorem St.setCells {g : Nat} {t : TypeId} (i : Nat) : ∀ (vs : List Value) (o : Nat) (w : World) (L : List Ent) (xs : Array Value), St S w0 w L → L[i]? = some (true, g, t, xs) → St S w0 (w.setCells g o vs) (L.set i (true, g, t, setsA xs o vs))
  | [], o, w, L, xs, H, h => by
    have hl := (List.getElem?_eq_some_iff.1 h).1
    have he := (List.getElem?_eq_some_iff.1 h).2
    have : L.set i (true, g, t, xs) = L := by rw [← he]; simp
    show St S w0 w (L.set i (true, g, t, xs))
    rw [this]; exact H
  | v :: r, o, w, L, xs, H, h => by
    have hl := (List.getElem?_eq_some_iff.1 h).1
    have h2 := H.setRow i h (xs.setIfInBounds o v)
    rw [← setCell_eq_setRow w g o xs t (0, 0) v (H.get i h)] at h2
    have h3 := St.setCells (g := g) (t := t) i r (o + 1) _ _ (xs.setIfInBounds o v) h2 (show (L.set i (true, g, t, xs.setIfInBounds o v))[i]? = some (true, g, t, xs.setIfInBounds o v) by simp [hl])
    rw [List.set_set] at h3
    exact h3
theorem wl_storeRow (i : Nat) (H : St S w0 w L) {g k : Nat} {I : List Ins} {q : Ins} (h : L[i]? = some (true, g, 45, (flatI I).toArray)) (hk : k < I.length) (hx : a.eval x = .pointer (some ⟨g, k * 7, none⟩)) (hy : a.eval y = insV q)
    (kk : ∀ w', St S w0 w' (L.set i (true, g, 45, (flatI (layI I k [q])).toArray)) → wpList Tryd.prog ops Q rest a w') : wpList Tryd.prog ops Q (⟨none, .store 45 x y, ty, pos, after, none⟩ :: rest) a w := by
  refine wpList_store_mid rfl 45 x y rfl g (k * 7) (insA q) hx hy (fun j hj => ⟨?_, H.fz i _ h⟩) sizeI (insA_all q) ?_
  · have hj' : j < 7 := hj
    have hl : k * 7 + j < (flatI I).toArray.size := by simp only [List.size_toArray, flatI_len]; omega
    rw [H.cell i _ h (Array.getElem?_eq_getElem hl)]
    rfl
  · have h2 := St.setCells (S := S) (w0 := w0) i (insA q).toList (k * 7) w L _ H h
    rw [sets_ins hk q] at h2
    exact kk _ h2
theorem run_buildI4 (ev : Operand → Value) (o m : Int) (h0 : ev x = .int .i64 o) (h2 : ev z = .int .i64 m) (w : World) : (execOp ev ⟨dst, .build 45 #[(0, x), (2, z)], ty, pos, after, none⟩).run Tryd.prog w = .ok (.value (insV ⟨o, noSet, m, 0⟩)) w := by
  unfold execOp
  simp only [List.map_toArray, List.map_cons, List.map_nil, h0, h2]
  kernel_rfl
theorem St.one {g : Nat} {t : TypeId} {xs : Array Value} (h : w.heap[g]? = some (.cells xs t (0, 0))) : St (fun k => k = g) w w [(true, g, t, xs)] :=
  ⟨But.refl _ _, fun x hx => by rw [List.mem_singleton.1 hx]; exact h, fun x hx _ _ => by rw [List.mem_singleton.1 hx], by simp⟩
end
theorem St.codeE {g gb : Nat} {t : TypeId} {b1 : Bool} {xs ys zs : Array Value} {w0 w w' : World} (H : St (fun k => k = g) w0 w [(b1, gb, t, xs), (true, g, 45, ys)]) (B : But (fun k => k = g) w w') (h : w'.heap[g]? = some (.cells zs 45 (0, 0))) : St (fun k => k = g) w0 w' [(b1, gb, t, xs), (true, g, 45, zs)] := by
  have hne : gb ≠ g := by have := H.nd; simp at this; exact this
  refine H.callS B (fun i _ h => h) rfl (fun x hx => ?_)
  rcases List.mem_cons.1 hx with rfl | hx
  · exact .inl ⟨by simp, hne⟩
  · rw [List.mem_singleton.1 hx]; exact .inr h
/-- How writing a code from a on ends. -/
def CodE (g : Nat) (I : List Ins) (a : Nat) (X : List Ins) (w : World) (e : Ending) (w' : World) : Prop := e = .returned (.tuple #[]) ∧ But (fun k => k = g) w w' ∧ w'.heap[g]? = some (.cells (flatI (layI I a X)).toArray 45 (0, 0))
/-- A member is loaded, counted, written. -/
structure CoK (f : Fo) (va : Option Addr) (g n : Nat) (w : World) : Prop where
  kid : ∀ w', But (fun k => k = g) w w' → ∀ i, i < f.len → ∃ b u, va = some ⟨b, 0, none⟩ ∧ (loadVar 27 ⟨b, i * 8, none⟩).run Tryd.prog w' = .ok (reV (f.nth i).1.k (f.nth i).1.s u (f.nth i).1.mn (f.nth i).1.mx) w' ∧ Calls Tryd.prog 25 #[reV (f.nth i).1.k (f.nth i).1.s u (f.nth i).1.mn (f.nth i).1.mx] w' (fun e w2 => e = .returned (.int .i64 ((min (cdT (f.nth i)).n cap : Nat) : Int)) ∧ Below w'.heap.size w' w2)
    ∧ ∀ (I : List Ins) (a m : Nat), I.length = n → w'.heap[g]? = some (.cells (flatI I).toArray 45 (0, 0)) → a + (cdT (f.nth i)).n ≤ n → m ≤ 4096 → Calls Tryd.prog 23 #[.slice (some ⟨g, 0, none⟩) n n, reV (f.nth i).1.k (f.nth i).1.s u (f.nth i).1.mn (f.nth i).1.mx, .int .i64 (a : Int), .int .i64 (m : Int)] w' (CodE g I a ((cdT (f.nth i)).put a m) w')
set_option maxHeartbeats 4000000 in
set_option maxRecDepth 100000 in
theorem cc1 (s : S4) (va : Option Addr) (n0 vc : Nat) (g n : Nat) (I : List Ins) (hI : I.length = n) (a m : Nat) (w : World) (hg : w.heap[g]? = some (.cells (flatI I).toArray 45 (0, 0))) (ha : a < n) (hn : n ≤ 2048) (hm : m ≤ 4096) :
    Calls Tryd.prog 23 #[.slice (some ⟨g, 0, none⟩) n n, reV 1 s (.slice va n0 vc) 0 0, .int .i64 (a : Int), .int .i64 (m : Int)] w (CodE g I a [⟨1, s, (m : Int), 0⟩] w) := by
  have H := St.one hg
  have hk : Hid (a < I.length) := by rw [hI]; exact ha
  have j1 : (a : Int) < (n : Int) := by omega
  replace hg := hide hg
  replace hI := hide hI
  go_enter Tryd.func23, Tryd.ntmps23
  go_wp2_with (first | ((with_reducible refine at_box 27 ?_); refine wl_box28 H rfl ?_; clear H; intro gb w1 H q1 q2; have c0 := H.cell 0 0 rfl (v := .int .i64 1) rfl) | ((with_reducible refine at_load 24 ?_); refine wl_loadA 24 rfl (load25r (H.get 0 rfl)) ?_) | ((with_reducible refine at_build 45 ?_); refine wl_val (run_buildI3 _ 1 m s rfl rfl rfl _) ?_) | ((with_reducible refine at_store 45 ?_); refine wl_storeRow 1 H (q := ⟨1, s, (m : Int), 0⟩) rfl hk.out rfl rfl ?_; clear H c0; intro w2 H))
  go_end0
  exact ⟨rfl, H.but, H.get 1 rfl⟩
end Go.Proofs.YtkgegjnkkbgghaaDoor
namespace Go.Proofs.YtkgegjnkkbgghaaDoor
open Go.RowKit
set_option linter.unusedVariables false
set_option linter.unusedSimpArgs false
set_option maxHeartbeats 4000000 in
set_option maxRecDepth 100000 in
theorem cc2z (s : S4) (va : Option Addr) (vc : Nat) (g n : Nat) (I : List Ins) (hI : I.length = n) (a m : Nat) (w : World) (hg : w.heap[g]? = some (.cells (flatI I).toArray 45 (0, 0))) (hn : n ≤ 2048) (hm : m ≤ 4096) (ha : a < n) :
    Calls Tryd.prog 23 #[.slice (some ⟨g, 0, none⟩) n n, reV 2 s (.slice va 0 vc) 0 0, .int .i64 (a : Int), .int .i64 (m : Int)] w (CodE g I a [⟨4, noSet, (m : Int), 0⟩] w) := by
  have H := St.one hg
  have hk : Hid (a < I.length) := by rw [hI]; exact ha
  have j1 : (a : Int) < (n : Int) := by omega
  replace hg := hide hg
  replace hI := hide hI
  go_enter Tryd.func23, Tryd.ntmps23
  go_wp2_with (first | ((with_reducible refine at_box 27 ?_); refine wl_box28 H rfl ?_; clear H; intro gb w1 H q1 q2; have c0 := H.cell 0 0 rfl (v := .int .i64 2) rfl; have c5 := H.cell 0 5 rfl (v := .slice va 0 vc) rfl; have c6 := H.cell 0 6 rfl (v := .int .i64 0) rfl; have c7 := H.cell 0 7 rfl (v := .int .i64 0) rfl) | ((with_reducible refine at_build 45 ?_); refine wl_val (run_buildI4 _ 4 m rfl rfl _) ?_) | ((with_reducible refine at_store 45 ?_); refine wl_storeRow 1 H (q := ⟨4, noSet, (m : Int), 0⟩) rfl hk.out rfl rfl ?_; clear H c0 c5 c6 c7; intro w2 H))
  replace H := hide H
  go_loopw [8] (fun iv wr => iv = .int .i64 0 ∧ Hid (St (fun k => k = g) w wr [(true, gb, 27, reA 2 s (.slice va 0 vc) 0 0), (true, g, 45, (flatI (layI I a [⟨4, noSet, (m : Int), 0⟩])).toArray)])) (fun _ _ => 0)
  case atStart => exact ⟨rfl, H⟩
  case round =>
    obtain ⟨rfl, Hr⟩ := hrel
    have c0 := Hr.out.cell 0 0 rfl (v := .int .i64 2) rfl
    have c5 := Hr.out.cell 0 5 rfl (v := .slice va 0 vc) rfl
    go_wp2_with fail
    go_end0
    exact ⟨rfl, Hr.out.but, Hr.out.get 1 rfl⟩
set_option maxHeartbeats 4000000 in
set_option maxRecDepth 100000 in
theorem cc2 (s : S4) (f : Fo) (va : Option Addr) (n0 vc : Nat) (g n : Nat) (I : List Ins) (hI : I.length = n) (a m : Nat) (w : World) (hg : w.heap[g]? = some (.cells (flatI I).toArray 45 (0, 0))) (hn : n ≤ 2048) (hm : m ≤ 4096) (hn0 : f.len = n0) (h0 : n0 ≠ 0) (hn2 : n0 ≤ 5000) (ha : a + sumN f.cds ≤ n) (K : CoK f va g n w) :
    Calls Tryd.prog 23 #[.slice (some ⟨g, 0, none⟩) n n, reV 2 s (.slice va n0 vc) 0 0, .int .i64 (a : Int), .int .i64 (m : Int)] w (CodE g I a (sqP f.cds a m) w) := by
  have H := St.one hg
  have KID := hide (fun w' hb i (hi : i < n0) => K.kid w' hb i (by rw [← hn0] at hi; exact hi))
  have NTH := hide (fun i (hi : i < n0) => cds_nth f i (by rw [← hn0] at hi; exact hi))
  have cl := hide (Fo.cds_len f)
  rw [hn0] at cl
  have hne : Hid (f.cds ≠ []) := fun h => by have := cl.out; rw [h] at this; exact h0 this.symm
  have haH : Hid (a + sumN f.cds ≤ n) := ha
  have hIH : Hid (I.length = n) := hI
  have d1 : ¬ ((n0 : Int) = 0) := by omega
  have d2 : decide ((n0 : Int) = 0) = false := decide_eq_false d1
  have d3 : decide (n0 = 0) = false := decide_eq_false h0
  have d4 : ((n0 : Int) == 0) = false := by simp; omega
  have PK := hide (fun i (hi : i < n0) => show ∃ p kq q : Nat, a + sumN (f.cds.take i) = p ∧ (cdT (f.nth i)).n = kq ∧ p + kq = q ∧ q ≤ n ∧ min (cdT (f.nth i)).n cap = kq ∧ a + sumN (f.cds.take (i + 1)) = q from by
    have e1 := sumN_tk (NTH.out i hi)
    have e2 := sumN_take_le f.cds (i + 1)
    have e3 := haH.out
    refine ⟨_, _, _, rfl, rfl, rfl, ?_, ?_, ?_⟩ <;> first | omega | (unfold cap; omega))
  replace hn0 := hide hn0
  replace K := hide K
  replace hg := hide hg
  clear ha hI
  go_enter Tryd.func23, Tryd.ntmps23
  go_wp2_with (first | ((with_reducible refine at_box 27 ?_); refine wl_box28 H rfl ?_; clear H; intro gb w1 H q1 q2; have c0 := H.cell 0 0 rfl (v := .int .i64 2) rfl; have c5 := H.cell 0 5 rfl (v := .slice va n0 vc) rfl; have c6 := H.cell 0 6 rfl (v := .int .i64 0) rfl; have c7 := H.cell 0 7 rfl (v := .int .i64 0) rfl))
  clear c0 c5 c6 c7
  replace H := hide H
  go_loopw [2, 8] (fun av iv wr => ∃ i : Nat, i ≤ n0 ∧ (i < n0 → av = .int .i64 ((a + sumN (f.cds.take i) : Nat) : Int)) ∧ (∃ p : Nat, p ≤ n ∧ av = .int .i64 (p : Int)) ∧ iv = .int .i64 (i : Int) ∧ Hid (St (fun k => k = g) w wr [(true, gb, 27, reA 2 s (.slice va n0 vc) 0 0), (true, g, 45, (flatI (layI I a (pz f.cds i a m))).toArray)])) (fun _ iv _ => n0 - (RowKit.intOf iv).toNat)
  case atStart => exact ⟨0, Nat.zero_le _, fun _ => rfl, ⟨a, by have := haH.out; omega, rfl⟩, rfl, by rw [pz_zero hne.out, layI_nil]; exact H⟩
  case round =>
    obtain ⟨i, hi, hav, ⟨p0, hp0, rfl⟩, rfl, Hr⟩ := hrel
    have c0 := Hr.out.cell 0 0 rfl (v := .int .i64 2) rfl
    have c5 := Hr.out.cell 0 5 rfl (v := .slice va n0 vc) rfl
    by_cases hlt : i < n0
    · have j1 : (i : Int) < (n0 : Int) := by omega
      obtain ⟨b, u, rfl, hld, CT, _⟩ := KID.out wr Hr.out.but i hlt
      obtain ⟨p, kq, q, hp, hkq, hq, hqn, hmin, hq2⟩ := PK.out i hlt
      obtain rfl : p = p0 := by have h := hav hlt; rw [hp] at h; injection h with h1 h2; omega
      rw [hmin] at CT
      have e1 : (p : Int) + (kq : Int) = (q : Int) := by omega
      have hltH := hide hlt
      have hpn : p ≤ 2048 := by omega
      have hkn : kq ≤ 2048 := by omega
      have hqn2 : q ≤ 2048 := by omega
      have hlen : Hid ((layI I a (pz f.cds i a m)).length = n) := by
        have e := pz_len (L := f.cds) (i := i) (by rw [cl.out]; exact hlt) a m
        have := hIH.out
        show _ = _
        rw [layI_len (by omega)]; exact this
      have hstep : ∀ nx, nx = (if i + 1 = n0 then m else q) → Hid (layI (layI I a (pz f.cds i a m)) p ((cdT (f.nth i)).put p nx) = layI I a (pz f.cds (i + 1) a m)) := by
        intro nx hnx
        have e := pz_len (L := f.cds) (i := i) (by rw [cl.out]; exact hlt) a m
        have e2 := hIH.out
        show _ = _
        rw [layI_lay' (by omega) (by omega), pz_step (NTH.out i hlt), cl.out, hp, hkq, hq, hnx]
      have hfit : Hid (p + (cdT (f.nth i)).n ≤ n) := by show _ ≤ _; omega
      replace hav := hide hav
      replace hp := hide hp
      replace hkq := hide hkq
      replace hq := hide hq
      replace hmin := hide hmin
      replace hq2 := hide hq2
      replace hld := hide hld
      replace CT := hide CT
      clear hp0
      go_wp2_with (first | ((with_reducible refine at_load 27 ?_); refine wl_loadA 27 rfl hld.out ?_))
      refine CT.out.mono ?_
      rintro e w4 ⟨rfl, B4⟩
      have H4 := Hr.out.call B4 (Nat.le_refl _)
      clear B4 CT hld
      have c54 := H4.cell 0 5 rfl (v := .slice (some ⟨b, 0, none⟩) n0 vc) rfl
      obtain ⟨b4, u4, hb4, hld4, _, CO⟩ := KID.out w4 H4.but i hlt
      cases hb4
      replace hld4 := hide hld4
      by_cases hl : i + 1 = n0
      · have t1 : (n0 : Int) - 1 = (i : Int) := by omega
        have CO2 := hide (CO _ p m hlen.out (H4.get 1 rfl) hfit.out hm)
        have HS := hstep m (by rw [if_pos hl])
        replace hl := hide hl
        replace hstep := hide hstep
        clear CO
        replace H4 := hide H4
        go_wp2_with (first | ((with_reducible refine at_load 27 ?_); refine wl_loadA 27 rfl hld4.out ?_))
        refine CO2.out.mono ?_
        rintro e w5 ⟨rfl, B5, hg5⟩
        rw [HS.out] at hg5
        have H5 := hide (H4.out.codeE B5 hg5)
        clear hg5 B5 CO2 hld4 HS
        go_wp2_with fail
        my_round ⟨i + 1, hltH.out, fun _ => by rw [hq2.out], ⟨q, hqn, rfl⟩, by go_num, H5⟩
        case measure => have := hltH.out; (first | (change n0 - ((i : Int) + 1).toNat < n0 - (i : Int).toNat; omega) | (simp [RowKit.intOf]; omega))
      · have t1 : ¬ ((i : Int) = (n0 : Int) - 1) := by omega
        have t2 : decide ((i : Int) = (n0 : Int) - 1) = false := decide_eq_false t1
        have CO2 := hide (CO _ p q hlen.out (H4.get 1 rfl) hfit.out (by omega))
        have HS := hstep q (by rw [if_neg hl])
        replace hl := hide hl
        replace hstep := hide hstep
        clear CO
        replace H4 := hide H4
        go_wp2_with (first | ((with_reducible refine at_load 27 ?_); refine wl_loadA 27 rfl hld4.out ?_))
        refine CO2.out.mono ?_
        rintro e w5 ⟨rfl, B5, hg5⟩
        rw [HS.out] at hg5
        have H5 := hide (H4.out.codeE B5 hg5)
        clear hg5 B5 CO2 hld4 HS
        go_wp2_with fail
        my_round ⟨i + 1, hltH.out, fun _ => by rw [hq2.out], ⟨q, hqn, rfl⟩, by go_num, H5⟩
        case measure => have := hltH.out; (first | (change n0 - ((i : Int) + 1).toNat < n0 - (i : Int).toNat; omega) | (simp [RowKit.intOf]; omega))
    · obtain rfl : i = n0 := by omega
      have hp1 : p0 ≤ 2048 := by omega
      clear hav
      have HF : Hid (pz f.cds i a m = sqP f.cds a m) := by have := pz_all f.cds a m; rw [cl.out] at this; exact this
      rw [HF.out] at Hr
      go_wp2_with fail
      go_end0
      exact ⟨rfl, Hr.out.but, Hr.out.get 1 rfl⟩
end Go.Proofs.YtkgegjnkkbgghaaDoor
namespace Go.Proofs.YtkgegjnkkbgghaaDoor
open Go.RowKit
set_option linter.unusedVariables false
set_option linter.unusedSimpArgs false
set_option maxHeartbeats 4000000 in
set_option maxRecDepth 100000 in
theorem cc3z (s : S4) (va : Option Addr) (vc : Nat) (g n : Nat) (I : List Ins) (hI : I.length = n) (a m : Nat) (w : World) (hg : w.heap[g]? = some (.cells (flatI I).toArray 45 (0, 0))) (hn : n ≤ 2048) (hm : m ≤ 4096) (ha : a < n) :
    Calls Tryd.prog 23 #[.slice (some ⟨g, 0, none⟩) n n, reV 3 s (.slice va 0 vc) 0 0, .int .i64 (a : Int), .int .i64 (m : Int)] w (CodE g I a [⟨1, noSet, (m : Int), 0⟩] w) := by
  have H := St.one hg
  have hk : Hid (a < I.length) := by rw [hI]; exact ha
  have j1 : (a : Int) < (n : Int) := by omega
  replace hg := hide hg
  replace hI := hide hI
  go_enter Tryd.func23, Tryd.ntmps23
  go_wp2_with (first | ((with_reducible refine at_box 27 ?_); refine wl_box28 H rfl ?_; clear H; intro gb w1 H q1 q2; have c0 := H.cell 0 0 rfl (v := .int .i64 3) rfl; have c5 := H.cell 0 5 rfl (v := .slice va 0 vc) rfl; have c6 := H.cell 0 6 rfl (v := .int .i64 0) rfl; have c7 := H.cell 0 7 rfl (v := .int .i64 0) rfl) | ((with_reducible refine at_build 45 ?_); refine wl_val (run_buildI4 _ 1 m rfl rfl _) ?_) | ((with_reducible refine at_store 45 ?_); refine wl_storeRow 1 H (q := ⟨1, noSet, (m : Int), 0⟩) rfl hk.out rfl rfl ?_; clear H c0 c5 c6 c7; intro w2 H))
  replace H := hide H
  go_loopw [10] (fun iv wr => iv = .int .i64 0 ∧ Hid (St (fun k => k = g) w wr [(true, gb, 27, reA 3 s (.slice va 0 vc) 0 0), (true, g, 45, (flatI (layI I a [⟨1, noSet, (m : Int), 0⟩])).toArray)])) (fun _ _ => 0)
  case atStart => exact ⟨rfl, H⟩
  case round =>
    obtain ⟨rfl, Hr⟩ := hrel
    have c0 := Hr.out.cell 0 0 rfl (v := .int .i64 3) rfl
    have c5 := Hr.out.cell 0 5 rfl (v := .slice va 0 vc) rfl
    go_wp2_with fail
    go_end0
    exact ⟨rfl, Hr.out.but, Hr.out.get 1 rfl⟩
set_option maxHeartbeats 4000000 in
set_option maxRecDepth 100000 in
theorem cc3 (s : S4) (f : Fo) (va : Option Addr) (n0 vc : Nat) (g n : Nat) (I : List Ins) (hI : I.length = n) (a m : Nat) (w : World) (hg : w.heap[g]? = some (.cells (flatI I).toArray 45 (0, 0))) (hn : n ≤ 2048) (hm : m ≤ 4096) (hn0 : f.len = n0) (h0 : n0 ≠ 0) (hn2 : n0 ≤ 5000) (ha : a + chN f.cds ≤ n) (K : CoK f va g n w) :
    Calls Tryd.prog 23 #[.slice (some ⟨g, 0, none⟩) n n, reV 3 s (.slice va n0 vc) 0 0, .int .i64 (a : Int), .int .i64 (m : Int)] w (CodE g I a (chP f.cds a m) w) := by
  have H := St.one hg
  have KID := hide (fun w' hb i (hi : i < n0) => K.kid w' hb i (by rw [← hn0] at hi; exact hi))
  have NTH := hide (fun i (hi : i < n0) => cds_nth f i (by rw [← hn0] at hi; exact hi))
  have cl := hide (Fo.cds_len f)
  rw [hn0] at cl
  have hne : Hid (f.cds ≠ []) := fun h => by have := cl.out; rw [h] at this; exact h0 this.symm
  have haH : Hid (a + chN f.cds ≤ n) := ha
  have hIH : Hid (I.length = n) := hI
  have d1 : ¬ ((n0 : Int) = 0) := by omega
  have d2 : decide ((n0 : Int) = 0) = false := decide_eq_false d1
  have d3 : decide (n0 = 0) = false := decide_eq_false h0
  have d4 : ((n0 : Int) == 0) = false := by simp; omega
  have PK := hide (fun i (hi : i < n0) => show ∃ p kq : Nat, a + cpN (f.cds.take i) = p ∧ (cdT (f.nth i)).n = kq ∧ p + kq ≤ n ∧ (i + 1 < n0 → p + 1 + kq ≤ n) ∧ min (cdT (f.nth i)).n cap = kq ∧ a + cpN (f.cds.take (i + 1)) = p + 1 + kq from by
    have e1 := cpN_tk (NTH.out i hi)
    have e2 := cpN_le (NTH.out i hi)
    rw [cl.out] at e2
    have e3 := haH.out
    refine ⟨_, _, rfl, rfl, ?_, ?_, ?_, ?_⟩ <;> first | omega | (unfold cap; omega))
  replace hn0 := hide hn0
  replace K := hide K
  replace hg := hide hg
  clear ha hI
  go_enter Tryd.func23, Tryd.ntmps23
  go_wp2_with (first | ((with_reducible refine at_box 27 ?_); refine wl_box28 H rfl ?_; clear H; intro gb w1 H q1 q2; have c0 := H.cell 0 0 rfl (v := .int .i64 3) rfl; have c5 := H.cell 0 5 rfl (v := .slice va n0 vc) rfl; have c6 := H.cell 0 6 rfl (v := .int .i64 0) rfl; have c7 := H.cell 0 7 rfl (v := .int .i64 0) rfl))
  clear c0 c5 c6 c7
  replace H := hide H
  go_loopw [2, 10] (fun av iv wr => ∃ i : Nat, i ≤ n0 ∧ (i < n0 → av = .int .i64 ((a + cpN (f.cds.take i) : Nat) : Int)) ∧ (∃ p : Nat, p ≤ n ∧ av = .int .i64 (p : Int)) ∧ iv = .int .i64 (i : Int) ∧ Hid (St (fun k => k = g) w wr [(true, gb, 27, reA 3 s (.slice va n0 vc) 0 0), (true, g, 45, (flatI (layI I a (cz f.cds i a m))).toArray)])) (fun _ iv _ => n0 - (RowKit.intOf iv).toNat)
  case atStart => exact ⟨0, Nat.zero_le _, fun _ => rfl, ⟨a, by have := haH.out; omega, rfl⟩, rfl, by rw [cz_zero hne.out, layI_nil]; exact H⟩
  case round =>
    obtain ⟨i, hi, hav, ⟨p0, hp0, rfl⟩, rfl, Hr⟩ := hrel
    have c0 := Hr.out.cell 0 0 rfl (v := .int .i64 3) rfl
    have c5 := Hr.out.cell 0 5 rfl (v := .slice va n0 vc) rfl
    by_cases hlt : i < n0
    · have j1 : (i : Int) < (n0 : Int) := by omega
      obtain ⟨b, u, rfl, hld, CT, CO⟩ := KID.out wr Hr.out.but i hlt
      obtain ⟨p, kq, hp, hkq, hqn, hqn1, hmin, hq2⟩ := PK.out i hlt
      obtain rfl : p = p0 := by have h := hav hlt; rw [hp] at h; injection h with h1 h2; omega
      rw [hmin] at CT
      have hltH := hide hlt
      have hpn : p ≤ 2048 := by omega
      have hkn : kq ≤ 2048 := by omega
      have hcz : Hid ((cz f.cds i a m).length = cpN (f.cds.take i)) := cz_len (L := f.cds) (i := i) (by rw [cl.out]; exact hlt) a m
      have hlen : Hid ((layI I a (cz f.cds i a m)).length = n) := by
        have := hIH.out
        have e := hcz.out
        show _ = _
        rw [layI_len (by omega)]; exact this
      replace hav := hide hav
      replace hld := hide hld
      replace CT := hide CT
      clear hp0
      by_cases hl : i + 1 = n0
      · have t1 : ¬ ((i : Int) < (n0 : Int) - 1) := by omega
        have t2 : decide ((i : Int) < (n0 : Int) - 1) = false := decide_eq_false t1
        have HS : Hid (layI (layI I a (cz f.cds i a m)) p ((cdT (f.nth i)).put p m) = layI I a (cz f.cds (i + 1) a m)) := by
          have e := hcz.out
          have e2 := hIH.out
          show _ = _
          rw [layI_lay' (by omega) (by omega), cz_last (NTH.out i hlt) (by rw [cl.out]; exact hl), hp]
        have CO2 := hide (CO _ p m hlen.out (Hr.out.get 1 rfl) (by omega) hm)
        obtain ⟨q, hq⟩ : ∃ q, p + kq = q := ⟨_, rfl⟩
        have e1 : (p : Int) + (kq : Int) = (q : Int) := by omega
        have hqb : q ≤ n := by omega
        have hqb2 : q ≤ 2048 := by omega
        replace hl := hide hl
        replace hp := hide hp
        replace hkq := hide hkq
        replace hmin := hide hmin
        replace hq2 := hide hq2
        replace hq := hide hq
        clear CO hqn1
        go_wp2_with (first | ((with_reducible refine at_load 27 ?_); refine wl_loadA 27 rfl hld.out ?_))
        refine CO2.out.mono ?_
        rintro e w5 ⟨rfl, B5, hg5⟩
        rw [HS.out] at hg5
        have H5 := Hr.out.codeE B5 hg5
        clear hg5 B5 CO2 hld HS c0 c5
        have c55 := H5.cell 0 5 rfl (v := .slice (some ⟨b, 0, none⟩) n0 vc) rfl
        obtain ⟨b5, u5, hb5, hld5, CT5, _⟩ := KID.out w5 H5.but i hlt
        cases hb5
        rw [hmin.out] at CT5
        replace hld5 := hide hld5
        replace CT5 := hide CT5
        replace H5 := hide H5
        clear hlt
        go_wp2_with (first | ((with_reducible refine at_load 27 ?_); refine wl_loadA 27 rfl hld5.out ?_))
        refine CT5.out.mono ?_
        rintro e w6 ⟨rfl, B6⟩
        have H6 := hide (H5.out.call B6 (Nat.le_refl _))
        clear B6 CT5 hld5
        go_wp2_with fail
        my_round ⟨i + 1, hltH.out, fun h => by have := hl.out; omega, ⟨q, hqb, rfl⟩, by go_num, H6⟩
        case measure => have := hltH.out; (first | (change n0 - ((i : Int) + 1).toNat < n0 - (i : Int).toNat; omega) | (simp [RowKit.intOf]; omega))
      · have t1 : (i : Int) < (n0 : Int) - 1 := by omega
        have t2 : decide ((i : Int) < (n0 : Int) - 1) = true := decide_eq_true t1
        have hqn2 := hqn1 (by omega)
        obtain ⟨p1, hp1⟩ : ∃ p1, p + 1 = p1 := ⟨_, rfl⟩
        obtain ⟨q, hq⟩ : ∃ q, p1 + kq = q := ⟨_, rfl⟩
        have e0 : (p : Int) + 1 = (p1 : Int) := by omega
        have e1 : (p1 : Int) + (kq : Int) = (q : Int) := by omega
        have j2 : (p : Int) < (n : Int) := by have := (cdT (f.nth i)).pos; omega
        have hk : Hid (p < (layI I a (cz f.cds i a m)).length) := by show _ < _; rw [hlen.out]; omega
        have hlen2 : Hid ((layI (layI I a (cz f.cds i a m)) p [⟨2, noSet, (p1 : Int), (q : Int)⟩]).length = n) := by
          have e := hlen.out
          show _ = _
          rw [layI_len (by rw [e]; simp; omega)]; exact e
        have HS : Hid (layI (layI (layI I a (cz f.cds i a m)) p [⟨2, noSet, (p1 : Int), (q : Int)⟩]) p1 ((cdT (f.nth i)).put p1 m) = layI I a (cz f.cds (i + 1) a m)) := by
          have e := hcz.out
          have e2 := hIH.out
          have e3 := hlen.out
          show _ = _
          rw [layI_lay' (by simp; omega) (by rw [e3]; simp; omega), layI_lay' (by omega) (by omega), cz_step (NTH.out i hlt) (by rw [cl.out]; omega), hp, hp1, hkq, hq]
          rfl
        have hqb : q ≤ n := by omega
        have hqb2 : q ≤ 2048 := by omega
        have hpb1 : p1 ≤ 2048 := by omega
        have hfit : Hid (p1 + (cdT (f.nth i)).n ≤ n) := by show _ ≤ _; omega
        replace hl := hide hl
        replace hp := hide hp
        replace hkq := hide hkq
        replace hmin := hide hmin
        replace hq2 : Hid (a + cpN (f.cds.take (i + 1)) = q) := by show _ = _; omega
        replace hq := hide hq
        replace hp1 := hide hp1
        clear CO hqn1 hqn2 hqn
        go_wp2_with (first | ((with_reducible refine at_load 27 ?_); refine wl_loadA 27 rfl hld.out ?_))
        refine CT.out.mono ?_
        rintro e w4 ⟨rfl, B4⟩
        have H4 := Hr.out.call B4 (Nat.le_refl _)
        clear B4 CT hld c0 c5
        go_wp2_with (first | ((with_reducible refine at_build 45 ?_); refine wl_val (run_buildI22 _ (p1 : Int) (q : Int) rfl rfl rfl _) ?_) | ((with_reducible refine at_store 45 ?_); refine wl_storeRow 1 H4 (q := ⟨2, noSet, (p1 : Int), (q : Int)⟩) rfl hk.out rfl rfl ?_; clear H4; intro w5 H5; obtain ⟨b5, u5, hb5, hld5, _, CO5⟩ := KID.out w5 H5.but i hltH.out; cases hb5; replace hld5 := hide hld5; have CO5' := hide (CO5 _ p1 m hlen2.out (H5.get 1 rfl) hfit.out hm); clear CO5; have c55 := H5.cell 0 5 rfl (v := .slice (some ⟨b, 0, none⟩) n0 vc) rfl; replace H5 := hide H5) | ((with_reducible refine at_load 27 ?_); refine wl_loadA 27 rfl hld5.out ?_))
        refine CO5'.out.mono ?_
        rintro e w6 ⟨rfl, B6, hg6⟩
        rw [HS.out] at hg6
        have H6 := H5.out.codeE B6 hg6
        clear hg6 B6 CO5' hld5 HS c55 H5
        have c56 := H6.cell 0 5 rfl (v := .slice (some ⟨b, 0, none⟩) n0 vc) rfl
        obtain ⟨b6, u6, hb6, hld6, CT6, _⟩ := KID.out w6 H6.but i hltH.out
        cases hb6
        rw [hmin.out] at CT6
        replace hld6 := hide hld6
        replace CT6 := hide CT6
        replace H6 := hide H6
        go_wp2_with (first | ((with_reducible refine at_load 27 ?_); refine wl_loadA 27 rfl hld6.out ?_))
        refine CT6.out.mono ?_
        rintro e w7 ⟨rfl, B7⟩
        have H7 := hide (H6.out.call B7 (Nat.le_refl _))
        clear B7 CT6 hld6
        go_wp2_with fail
        my_round ⟨i + 1, hltH.out, fun h => by rw [hq2.out], ⟨q, hqb, rfl⟩, by go_num, H7⟩
        case measure => have := hltH.out; (first | (change n0 - ((i : Int) + 1).toNat < n0 - (i : Int).toNat; omega) | (simp [RowKit.intOf]; omega))
    · obtain rfl : i = n0 := by omega
      have hp1 : p0 ≤ 2048 := by omega
      clear hav
      have HF : Hid (cz f.cds i a m = chP f.cds a m) := by have := cz_all f.cds a m; rw [cl.out] at this; exact this
      rw [HF.out] at Hr
      go_wp2_with fail
      go_end0
      exact ⟨rfl, Hr.out.but, Hr.out.get 1 rfl⟩
end Go.Proofs.YtkgegjnkkbgghaaDoor
namespace Go.Proofs.YtkgegjnkkbgghaaDoor
open Go.RowKit
set_option linter.unusedVariables false
set_option linter.unusedSimpArgs false
theorem rep_at {α : Type} (k : Nat) (c : α) (r : List α) (i : Nat) (h : i < k) : (List.replicate k c ++ r)[i]? = some c := by
  rw [List.getElem?_append_left (by simp; omega)]
  simp [h]
theorem rep_at2 {α : Type} (k d : Nat) (c e : α) (i : Nat) (h : k ≤ i) (h2 : i < k + d) : (List.replicate k c ++ List.replicate d e)[i]? = some e := by
  rw [List.getElem?_append_right (by simp; omega)]
  simp only [List.length_replicate, List.getElem?_replicate]
  rw [if_pos (by omega)]
theorem rpL_a (c : Cd) (mn m : Nat) : rpL c mn (-1) m = List.replicate mn c ++ [lp c] := by simp [rpL]
theorem rpL_b (c : Cd) (mn mx m : Nat) : rpL c mn (mx : Int) m = List.replicate mn c ++ List.replicate (mx - mn) (opt c m) := by
  unfold rpL
  rw [if_neg (by omega), Int.toNat_natCast]
set_option maxHeartbeats 4000000 in
set_option maxRecDepth 100000 in
theorem cc4z (n1 : Nd) (k1 : Fo) (va : Option Addr) (vc : Nat) (g n : Nat) (I : List Ins) (hI : I.length = n) (a m : Nat) (w : World) (hg : w.heap[g]? = some (.cells (flatI I).toArray 45 (0, 0))) (hn : n ≤ 2048) (hm : m ≤ 4096) (ha : a < n) (K : CoK (.cons n1 k1 .nil) va g n w) :
    Calls Tryd.prog 23 #[.slice (some ⟨g, 0, none⟩) n n, reV 4 noSet (.slice va 1 vc) 0 0, .int .i64 (a : Int), .int .i64 (m : Int)] w (CodE g I a [⟨4, noSet, (m : Int), 0⟩] w) := by
  have H := St.one hg
  have KID := hide (fun w' hb => K.kid w' hb 0 (by simp [Fo.len]))
  have hIH : Hid (I.length = n) := hI
  have hk : Hid (a < I.length) := by rw [hI]; exact ha
  have j1 : (a : Int) < (n : Int) := by omega
  obtain ⟨c, hc⟩ : ∃ c, min (cdT (n1, k1)).n cap = c := ⟨_, rfl⟩
  have hcb : c ≤ 1048576 := cap_le (K := cap) hc
  replace hc := hide hc
  replace hg := hide hg
  replace K := hide K
  replace hI := hide hI
  go_enter Tryd.func23, Tryd.ntmps23
  go_wp2_with (first | ((with_reducible refine at_box 27 ?_); refine wl_box28 H rfl ?_; clear H; intro gb w1 H q1 q2; have c0 := H.cell 0 0 rfl (v := .int .i64 4) rfl; have c5 := H.cell 0 5 rfl (v := .slice va 1 vc) rfl; have c6 := H.cell 0 6 rfl (v := .int .i64 0) rfl; have c7 := H.cell 0 7 rfl (v := .int .i64 0) rfl; obtain ⟨b, u, rfl, hld, CT, _⟩ := KID.out w1 H.but; replace CT := hide CT; replace hld := hide hld) | ((with_reducible refine at_load 27 ?_); refine wl_loadA 27 rfl hld.out ?_))
  have CT2 : Hid (Calls Tryd.prog 25 #[reV n1.k n1.s u n1.mn n1.mx] w1 fun e w2 => e = .returned (.int .i64 (c : Int)) ∧ Below w1.heap.size w1 w2) := by
    have h := CT.out
    rw [show min (cdT ((Fo.cons n1 k1 Fo.nil).nth 0)).n cap = c from hc.out] at h
    exact h
  clear CT hld
  refine CT2.out.mono ?_
  rintro e w4 ⟨rfl, B4⟩
  have H4 := H.call B4 (Nat.le_refl _)
  clear c0 c5 c6 c7 H B4 CT2
  have c74 := H4.cell 0 7 rfl (v := .int .i64 0) rfl
  go_wp2_with (first | ((with_reducible refine at_build 45 ?_); refine wl_val (run_buildI4 _ 4 m rfl rfl _) ?_) | ((with_reducible refine at_store 45 ?_); refine wl_storeRow 1 H4 (q := ⟨4, noSet, (m : Int), 0⟩) rfl hk.out rfl rfl ?_; clear H4; intro w2 H))
  first | go_end0 | (refine bodyPost_ret (results_none rfl _ _ _) rfl ?_) | go_ret2
  exact ⟨rfl, H.but, H.get 1 rfl⟩
set_option maxHeartbeats 4000000 in
set_option maxRecDepth 100000 in
theorem cc4a (n1 : Nd) (k1 : Fo) (mn : Nat) (hmn : mn ≤ 64) (va : Option Addr) (vc : Nat) (g n : Nat) (I : List Ins) (hI : I.length = n) (a m : Nat) (w : World) (hg : w.heap[g]? = some (.cells (flatI I).toArray 45 (0, 0))) (hn : n ≤ 2048) (hm : m ≤ 4096) (L : List Cd) (hL : L = List.replicate mn (cdT (n1, k1)) ++ [lp (cdT (n1, k1))]) (hcx : (cdT (n1, k1)).n ≤ sumN L) (ha : a + sumN L ≤ n) (K : CoK (.cons n1 k1 .nil) va g n w) :
    Calls Tryd.prog 23 #[.slice (some ⟨g, 0, none⟩) n n, reV 4 noSet (.slice va 1 vc) (mn : Int) (-1), .int .i64 (a : Int), .int .i64 (m : Int)] w (CodE g I a (sqP L a m) w) := by
  have hLl : Hid (L.length = mn + 1) := by show _ = _; rw [hL]; simp
  have hne : Hid (L ≠ []) := fun h => by rw [h] at hL; simp at hL
  have LAT : Hid (∀ i, i < mn → L[i]? = some (cdT (n1, k1))) := fun i hi => by rw [hL]; exact rep_at _ _ _ _ hi
  have LEND : Hid (L[mn]? = some (lp (cdT (n1, k1)))) := by show _ = _; rw [hL, List.getElem?_append_right (by simp)]; simp
  have H := St.one hg
  have KID := hide (fun w' hb => K.kid w' hb 0 (by simp [Fo.len]))
  have hIH : Hid (I.length = n) := hI
  have haH : Hid (a + sumN L ≤ n) := ha
  obtain ⟨c, hc⟩ : ∃ c, (cdT (n1, k1)).n = c := ⟨_, rfl⟩
  have hcn : Hid ((cdT (n1, k1)).n = c) := hc
  have hcb : c ≤ 2048 := by rw [← hc]; omega
  have hmin : Hid (min (cdT (n1, k1)).n cap = c) := by show _ = _; rw [hc]; unfold cap; omega
  replace hc := hide hc
  replace hg := hide hg
  replace K := hide K
  replace hcx := hide hcx
  replace hL := hide hL
  clear hI ha
  go_enter Tryd.func23, Tryd.ntmps23
  go_wp2_with (first | ((with_reducible refine at_box 27 ?_); refine wl_box28 H rfl ?_; clear H; intro gb w1 H q1 q2; have c0 := H.cell 0 0 rfl (v := .int .i64 4) rfl; have c5 := H.cell 0 5 rfl (v := .slice va 1 vc) rfl; have c6 := H.cell 0 6 rfl (v := .int .i64 (mn : Int)) rfl; have c7 := H.cell 0 7 rfl (v := .int .i64 (-1)) rfl; obtain ⟨b, u, rfl, hld, CT, _⟩ := KID.out w1 H.but; replace CT := hide CT; replace hld := hide hld) | ((with_reducible refine at_load 27 ?_); refine wl_loadA 27 rfl hld.out ?_))
  have CT2 : Hid (Calls Tryd.prog 25 #[reV n1.k n1.s u n1.mn n1.mx] w1 fun e w2 => e = .returned (.int .i64 (c : Int)) ∧ Below w1.heap.size w1 w2) := by
    have h := CT.out
    rw [show min (cdT ((Fo.cons n1 k1 Fo.nil).nth 0)).n cap = c from hmin.out] at h
    exact h
  clear CT hld
  refine CT2.out.mono ?_
  rintro e w4 ⟨rfl, B4⟩
  have H4 := H.call B4 (Nat.le_refl _)
  clear c0 c5 c6 c7 H B4 CT2
  have c64 := H4.cell 0 6 rfl (v := .int .i64 (mn : Int)) rfl
  have c74 := H4.cell 0 7 rfl (v := .int .i64 (-1)) rfl
  replace H4 := hide H4
  go_wp2_with fail
  clear c64 c74
  go_loopw [2, 12] (fun av iv wr => ∃ i : Nat, i ≤ mn ∧ av = .int .i64 ((a + sumN (L.take i) : Nat) : Int) ∧ iv = .int .i64 (i : Int) ∧ Hid (St (fun k => k = g) w wr [(true, gb, 27, reA 4 noSet (.slice (some ⟨b, 0, none⟩) 1 vc) (mn : Int) (-1)), (true, g, 45, (flatI (layI I a (pz L i a m))).toArray)])) (fun _ iv _ => mn - (RowKit.intOf iv).toNat)
  case atStart => exact ⟨0, Nat.zero_le _, rfl, rfl, by rw [pz_zero hne.out, layI_nil]; exact H4⟩
  case round =>
    obtain ⟨i, hi, rfl, rfl, Hr⟩ := hrel
    have c5 := Hr.out.cell 0 5 rfl (v := .slice (some ⟨b, 0, none⟩) 1 vc) rfl
    have c6 := Hr.out.cell 0 6 rfl (v := .int .i64 (mn : Int)) rfl
    have c7 := Hr.out.cell 0 7 rfl (v := .int .i64 (-1)) rfl
    obtain ⟨p, hp⟩ : ∃ p, a + sumN (L.take i) = p := ⟨_, rfl⟩
    rw [hp]
    have hpn : p ≤ n := by have := sumN_take_le L i; have := haH.out; omega
    have hpn2 : p ≤ 2048 := by omega
    by_cases hlt : i < mn
    · have j1 : (i : Int) < (mn : Int) := by omega
      have AT := hide (LAT.out i hlt)
      have e1 := sumN_tk AT.out
      have e2 := sumN_take_le L (i + 1)
      have e3 := haH.out
      have e0 := hcn.out
      obtain ⟨q, hq⟩ : ∃ q, p + c = q := ⟨_, rfl⟩
      have e4 : (p : Int) + (c : Int) = (q : Int) := by omega
      have hqn : q ≤ n := by omega
      have hqn2 : q ≤ 2048 := by omega
      have hplen : Hid ((pz L i a m).length = sumN (L.take i)) := pz_len (L := L) (i := i) (by rw [hLl.out]; omega) a m
      have hlen : Hid ((layI I a (pz L i a m)).length = n) := by
        have := hIH.out
        have e := hplen.out
        show _ = _
        rw [layI_len (by omega)]; exact this
      have hstep : ∀ nx, nx = (if i + 1 = mn + 1 then m else q) → Hid (layI (layI I a (pz L i a m)) p ((cdT (n1, k1)).put p nx) = layI I a (pz L (i + 1) a m)) := by
        intro nx hnx
        have e := hplen.out
        have e2 := hIH.out
        show _ = _
        rw [layI_lay' (by omega) (by omega), pz_step AT.out, hLl.out, hp, hcn.out, hq, hnx]
      have hfit : Hid (p + (cdT (n1, k1)).n ≤ n) := by show _ ≤ _; rw [hcn.out]; omega
      have hq2 : Hid (a + sumN (L.take (i + 1)) = q) := by show _ = _; have := hcn.out; omega
      obtain ⟨b5, u5, hb5, hld5, _, CO⟩ := KID.out wr Hr.out.but
      cases hb5
      replace hld5 := hide hld5
      have hltH := hide hlt
      replace hp := hide hp
      replace hq := hide hq
      clear e0 e1 e2 e3
      replace hstep := hide hstep
      have HS := hstep.out q (by rw [if_neg (by omega)])
      have t0 : ¬ ((-1 : Int) = (mn : Int)) := by omega
      by_cases hl : i + 1 = mn
      · have t1 : (mn : Int) - 1 = (i : Int) := by omega
        clear hl
        have CO2 := hide (CO _ p q hlen.out (Hr.out.get 1 rfl) hfit.out (by omega))
        clear CO
        go_wp2_with (first | ((with_reducible refine at_load 27 ?_); refine wl_loadA 27 rfl hld5.out ?_))
        refine CO2.out.mono ?_
        rintro e w5 ⟨rfl, B5, hg5⟩
        have H5 := hide (Hr.out.codeE B5 (hg5.trans (congrArg (fun z => some (Obj.cells (flatI z).toArray 45 (0, 0))) HS.out)))
        clear hg5 B5 CO2 hld5 HS
        go_wp2_with fail
        my_round ⟨i + 1, hltH.out, by rw [hq2.out], by go_num, H5⟩
        case measure => have := hltH.out; (first | (change mn - ((i : Int) + 1).toNat < mn - (i : Int).toNat; omega) | (simp [RowKit.intOf]; omega))
      · have t1 : ¬ ((i : Int) = (mn : Int) - 1) := by omega
        have t2 : decide ((i : Int) = (mn : Int) - 1) = false := decide_eq_false t1
        clear hl
        have CO2 := hide (CO _ p q hlen.out (Hr.out.get 1 rfl) hfit.out (by omega))
        clear CO
        go_wp2_with (first | ((with_reducible refine at_load 27 ?_); refine wl_loadA 27 rfl hld5.out ?_))
        refine CO2.out.mono ?_
        rintro e w5 ⟨rfl, B5, hg5⟩
        have H5 := hide (Hr.out.codeE B5 (hg5.trans (congrArg (fun z => some (Obj.cells (flatI z).toArray 45 (0, 0))) HS.out)))
        clear hg5 B5 CO2 hld5 HS
        go_wp2_with fail
        my_round ⟨i + 1, hltH.out, by rw [hq2.out], by go_num, H5⟩
        case measure => have := hltH.out; (first | (change mn - ((i : Int) + 1).toNat < mn - (i : Int).toNat; omega) | (simp [RowKit.intOf]; omega))

    · obtain rfl : i = mn := by omega
      have j0 : ¬ ((i : Int) < (i : Int)) := by omega
      have AT := hide LEND.out
      have e1 := sumN_tk AT.out
      have e2 := sumN_take_le L (i + 1)
      have e3 := haH.out
      have e5 : (lp (cdT (n1, k1))).n = 1 + c := by simp only [lp]; rw [hcn.out]
      obtain ⟨p1, hp1⟩ : ∃ p1, p + 1 = p1 := ⟨_, rfl⟩
      have f0 : (p : Int) + 1 = (p1 : Int) := by omega
      have hp1n : p1 + c ≤ n := by omega
      have j2 : (p : Int) < (n : Int) := by omega
      have hplen : Hid ((pz L i a m).length = sumN (L.take i)) := pz_len (L := L) (i := i) (by rw [hLl.out]; omega) a m
      have hlen : Hid ((layI I a (pz L i a m)).length = n) := by
        have := hIH.out
        have e := hplen.out
        show _ = _
        rw [layI_len (by omega)]; exact this
      have hk : Hid (p < (layI I a (pz L i a m)).length) := by show _ < _; rw [hlen.out]; omega
      have hlen2 : Hid ((layI (layI I a (pz L i a m)) p [⟨2, noSet, (p1 : Int), (m : Int)⟩]).length = n) := by
        have e := hlen.out
        show _ = _
        rw [layI_len (by rw [e]; simp; omega)]; exact e
      have HS : Hid (layI (layI (layI I a (pz L i a m)) p [⟨2, noSet, (p1 : Int), (m : Int)⟩]) p1 ((cdT (n1, k1)).put p1 p) = layI I a (sqP L a m)) := by
        have e := hplen.out
        have e2 := hIH.out
        have e3 := hlen.out
        show _ = _
        rw [layI_lay' (by simp; omega) (by rw [e3]; simp; omega), layI_lay' (by omega) (by omega), ← pz_all, hLl.out, pz_step AT.out, hLl.out, if_pos rfl, hp, ← hp1]
        simp only [lp, List.singleton_append]
      have hfit : Hid (p1 + (cdT (n1, k1)).n ≤ n) := by show _ ≤ _; rw [hcn.out]; omega
      replace hp := hide hp
      replace hp1 := hide hp1
      have hp1b : p1 ≤ 2048 := by omega
      clear e1 e2 e3 e5
      go_wp2_with (first | ((with_reducible refine at_build 45 ?_); refine wl_val (run_buildI22 _ (p1 : Int) (m : Int) rfl rfl rfl _) ?_) | ((with_reducible refine at_store 45 ?_); refine wl_storeRow 1 Hr.out (q := ⟨2, noSet, (p1 : Int), (m : Int)⟩) rfl hk.out rfl rfl ?_; clear Hr c5 c6 c7; intro w5 H5; obtain ⟨b5, u5, hb5, hld5, _, CO5⟩ := KID.out w5 H5.but; cases hb5; replace hld5 := hide hld5; have CO5' := hide (CO5 _ p1 p hlen2.out (H5.get 1 rfl) hfit.out (by omega)); clear CO5; have c55 := H5.cell 0 5 rfl (v := .slice (some ⟨b, 0, none⟩) 1 vc) rfl; replace H5 := hide H5) | ((with_reducible refine at_load 27 ?_); refine wl_loadA 27 rfl hld5.out ?_))
      refine CO5'.out.mono ?_
      rintro e w6 ⟨rfl, B6, hg6⟩
      have H6 := H5.out.codeE B6 (hg6.trans (congrArg (fun z => some (Obj.cells (flatI z).toArray 45 (0, 0))) HS.out))
      clear hg6 B6 CO5' hld5 HS c55 H5
      have c66 := H6.cell 0 6 rfl (v := .int .i64 (i : Int)) rfl
      replace H6 := hide H6
      go_wp2_with fail
      clear c66
      go_loopw [14] (fun iv wr => iv = .int .i64 (i : Int) ∧ Hid (St (fun k => k = g) w wr [(true, gb, 27, reA 4 noSet (.slice (some ⟨b, 0, none⟩) 1 vc) (i : Int) (-1)), (true, g, 45, (flatI (layI I a (sqP L a m))).toArray)])) (fun _ _ => 0)
      case atStart => exact ⟨rfl, H6⟩
      case round =>
        obtain ⟨rfl, Hs⟩ := hrel
        have c77 := Hs.out.cell 0 7 rfl (v := .int .i64 (-1)) rfl
        have j3 : ¬ ((i : Int) < -1) := by omega
        have j4 : decide ((i : Int) < -1) = false := decide_eq_false j3
        go_wp2_with fail
        go_end0
        exact ⟨rfl, Hs.out.but, Hs.out.get 1 rfl⟩
end Go.Proofs.YtkgegjnkkbgghaaDoor
namespace Go.Proofs.YtkgegjnkkbgghaaDoor
open Go.RowKit
set_option linter.unusedVariables false
set_option linter.unusedSimpArgs false
set_option maxHeartbeats 4000000 in
set_option maxRecDepth 100000 in
theorem cc4b (n1 : Nd) (k1 : Fo) (mn mx : Nat) (hmn : mn ≤ mx) (hmx : mx ≤ 64) (hm0 : 1 ≤ mx) (va : Option Addr) (vc : Nat) (g n : Nat) (I : List Ins) (hI : I.length = n) (a m : Nat) (w : World) (hg : w.heap[g]? = some (.cells (flatI I).toArray 45 (0, 0))) (hn : n ≤ 2048) (hm : m ≤ 4096) (L : List Cd) (hL : L = List.replicate mn (cdT (n1, k1)) ++ List.replicate (mx - mn) (opt (cdT (n1, k1)) m)) (hcx : (cdT (n1, k1)).n ≤ sumN L) (ha : a + sumN L ≤ n) (K : CoK (.cons n1 k1 .nil) va g n w) :
    Calls Tryd.prog 23 #[.slice (some ⟨g, 0, none⟩) n n, reV 4 noSet (.slice va 1 vc) (mn : Int) (mx : Int), .int .i64 (a : Int), .int .i64 (m : Int)] w (CodE g I a (sqP L a m) w) := by
  have hLl : Hid (L.length = mx) := by show _ = _; rw [hL]; simp; omega
  have hne : Hid (L ≠ []) := fun h => by have := hLl.out; rw [h] at this; simp at this; omega
  have LAT : Hid (∀ i, i < mn → L[i]? = some (cdT (n1, k1))) := fun i hi => by rw [hL]; exact rep_at _ _ _ _ hi
  have LAT2 : Hid (∀ i, mn ≤ i → i < mx → L[i]? = some (opt (cdT (n1, k1)) m)) := fun i hi h2 => by rw [hL]; exact rep_at2 _ _ _ _ _ hi (by omega)
  have d0 : ¬ ((mx : Int) = 0) := by omega
  have d1 : decide ((mx : Int) = 0) = false := decide_eq_false d0
  have d4 : ((mx : Int) == 0) = false := by simp; omega
  have hmn6 : mn ≤ 64 := by omega
  have H := St.one hg
  have KID := hide (fun w' hb => K.kid w' hb 0 (by simp [Fo.len]))
  have hIH : Hid (I.length = n) := hI
  have haH : Hid (a + sumN L ≤ n) := ha
  obtain ⟨c, hc⟩ : ∃ c, (cdT (n1, k1)).n = c := ⟨_, rfl⟩
  have hcn : Hid ((cdT (n1, k1)).n = c) := hc
  have hcb : c ≤ 2048 := by rw [← hc]; omega
  have hmin : Hid (min (cdT (n1, k1)).n cap = c) := by show _ = _; rw [hc]; unfold cap; omega
  replace hc := hide hc
  replace hg := hide hg
  replace K := hide K
  replace hcx := hide hcx
  replace hL := hide hL
  clear hI ha
  go_enter Tryd.func23, Tryd.ntmps23
  go_wp2_with (first | ((with_reducible refine at_box 27 ?_); refine wl_box28 H rfl ?_; clear H; intro gb w1 H q1 q2; have c0 := H.cell 0 0 rfl (v := .int .i64 4) rfl; have c5 := H.cell 0 5 rfl (v := .slice va 1 vc) rfl; have c6 := H.cell 0 6 rfl (v := .int .i64 (mn : Int)) rfl; have c7 := H.cell 0 7 rfl (v := .int .i64 (mx : Int)) rfl; obtain ⟨b, u, rfl, hld, CT, _⟩ := KID.out w1 H.but; replace CT := hide CT; replace hld := hide hld) | ((with_reducible refine at_load 27 ?_); refine wl_loadA 27 rfl hld.out ?_))
  have CT2 : Hid (Calls Tryd.prog 25 #[reV n1.k n1.s u n1.mn n1.mx] w1 fun e w2 => e = .returned (.int .i64 (c : Int)) ∧ Below w1.heap.size w1 w2) := by
    have h := CT.out
    rw [show min (cdT ((Fo.cons n1 k1 Fo.nil).nth 0)).n cap = c from hmin.out] at h
    exact h
  clear CT hld
  refine CT2.out.mono ?_
  rintro e w4 ⟨rfl, B4⟩
  have H4 := H.call B4 (Nat.le_refl _)
  clear c0 c5 c6 c7 H B4 CT2
  have c64 := H4.cell 0 6 rfl (v := .int .i64 (mn : Int)) rfl
  have c74 := H4.cell 0 7 rfl (v := .int .i64 (mx : Int)) rfl
  replace H4 := hide H4
  go_wp2_with fail
  clear c64 c74
  go_loopw [2, 12] (fun av iv wr => ∃ i : Nat, i ≤ mn ∧ av = .int .i64 ((a + sumN (L.take i) : Nat) : Int) ∧ iv = .int .i64 (i : Int) ∧ Hid (St (fun k => k = g) w wr [(true, gb, 27, reA 4 noSet (.slice (some ⟨b, 0, none⟩) 1 vc) (mn : Int) (mx : Int)), (true, g, 45, (flatI (layI I a (pz L i a m))).toArray)])) (fun _ iv _ => mn - (RowKit.intOf iv).toNat)
  case atStart => exact ⟨0, Nat.zero_le _, rfl, rfl, by rw [pz_zero hne.out, layI_nil]; exact H4⟩
  case round =>
    obtain ⟨i, hi, rfl, rfl, Hr⟩ := hrel
    have c5 := Hr.out.cell 0 5 rfl (v := .slice (some ⟨b, 0, none⟩) 1 vc) rfl
    have c6 := Hr.out.cell 0 6 rfl (v := .int .i64 (mn : Int)) rfl
    have c7 := Hr.out.cell 0 7 rfl (v := .int .i64 (mx : Int)) rfl
    obtain ⟨p, hp⟩ : ∃ p, a + sumN (L.take i) = p := ⟨_, rfl⟩
    rw [hp]
    have hpn : p ≤ n := by have := sumN_take_le L i; have := haH.out; omega
    have hpn2 : p ≤ 2048 := by omega
    by_cases hlt : i < mn
    · have j1 : (i : Int) < (mn : Int) := by omega
      have AT := hide (LAT.out i hlt)
      have e1 := sumN_tk AT.out
      have e2 := sumN_take_le L (i + 1)
      have e3 := haH.out
      have e0 := hcn.out
      obtain ⟨q, hq⟩ : ∃ q, p + c = q := ⟨_, rfl⟩
      have e4 : (p : Int) + (c : Int) = (q : Int) := by omega
      have hqn : q ≤ n := by omega
      have hqn2 : q ≤ 2048 := by omega
      have hplen : Hid ((pz L i a m).length = sumN (L.take i)) := pz_len (L := L) (i := i) (by rw [hLl.out]; omega) a m
      have hlen : Hid ((layI I a (pz L i a m)).length = n) := by
        have := hIH.out
        have e := hplen.out
        show _ = _
        rw [layI_len (by omega)]; exact this
      have hstep : ∀ nx, nx = (if i + 1 = mx then m else q) → Hid (layI (layI I a (pz L i a m)) p ((cdT (n1, k1)).put p nx) = layI I a (pz L (i + 1) a m)) := by
        intro nx hnx
        have e := hplen.out
        have e2 := hIH.out
        show _ = _
        rw [layI_lay' (by omega) (by omega), pz_step AT.out, hLl.out, hp, hcn.out, hq, hnx]
      have hfit : Hid (p + (cdT (n1, k1)).n ≤ n) := by show _ ≤ _; rw [hcn.out]; omega
      have hq2 : Hid (a + sumN (L.take (i + 1)) = q) := by show _ = _; have := hcn.out; omega
      obtain ⟨b5, u5, hb5, hld5, _, CO⟩ := KID.out wr Hr.out.but
      cases hb5
      replace hld5 := hide hld5
      have hltH := hide hlt
      replace hp := hide hp
      replace hq := hide hq
      clear e0 e1 e2 e3
      replace hstep := hide hstep
      by_cases hl : i + 1 = mx
      · have t1 : (mn : Int) - 1 = (i : Int) := by omega
        obtain rfl : mx = mn := by omega
        have HS := hstep.out m (by rw [if_pos hl])
        clear hl
        have CO2 := hide (CO _ p m hlen.out (Hr.out.get 1 rfl) hfit.out (by omega))
        clear CO
        go_wp2_with (first | ((with_reducible refine at_load 27 ?_); refine wl_loadA 27 rfl hld5.out ?_))
        refine CO2.out.mono ?_
        rintro e w5 ⟨rfl, B5, hg5⟩
        have H5 := hide (Hr.out.codeE B5 (hg5.trans (congrArg (fun z => some (Obj.cells (flatI z).toArray 45 (0, 0))) HS.out)))
        clear hg5 B5 CO2 hld5 HS
        go_wp2_with fail
        my_round ⟨i + 1, hltH.out, by rw [hq2.out], by go_num, H5⟩
        case measure => have := hltH.out; (first | (change mn - ((i : Int) + 1).toNat < mn - (i : Int).toNat; omega) | (simp [RowKit.intOf]; omega))
      · have HS := hstep.out q (by rw [if_neg hl])
        by_cases hl2 : i + 1 = mn
        · have t1 : (mn : Int) - 1 = (i : Int) := by omega
          have t3 : ¬ ((mx : Int) = (mn : Int)) := by omega
          have t4 : decide ((mx : Int) = (mn : Int)) = false := decide_eq_false t3
          clear hl hl2
          have CO2 := hide (CO _ p q hlen.out (Hr.out.get 1 rfl) hfit.out (by omega))
          clear CO
          go_wp2_with (first | ((with_reducible refine at_load 27 ?_); refine wl_loadA 27 rfl hld5.out ?_))
          refine CO2.out.mono ?_
          rintro e w5 ⟨rfl, B5, hg5⟩
          have H5 := hide (Hr.out.codeE B5 (hg5.trans (congrArg (fun z => some (Obj.cells (flatI z).toArray 45 (0, 0))) HS.out)))
          clear hg5 B5 CO2 hld5 HS
          go_wp2_with fail
          my_round ⟨i + 1, hltH.out, by rw [hq2.out], by go_num, H5⟩
          case measure => have := hltH.out; (first | (change mn - ((i : Int) + 1).toNat < mn - (i : Int).toNat; omega) | (simp [RowKit.intOf]; omega))
        · have t1 : ¬ ((i : Int) = (mn : Int) - 1) := by omega
          have t2 : decide ((i : Int) = (mn : Int) - 1) = false := decide_eq_false t1
          clear hl hl2
          have CO2 := hide (CO _ p q hlen.out (Hr.out.get 1 rfl) hfit.out (by omega))
          clear CO
          go_wp2_with (first | ((with_reducible refine at_load 27 ?_); refine wl_loadA 27 rfl hld5.out ?_))
          refine CO2.out.mono ?_
          rintro e w5 ⟨rfl, B5, hg5⟩
          have H5 := hide (Hr.out.codeE B5 (hg5.trans (congrArg (fun z => some (Obj.cells (flatI z).toArray 45 (0, 0))) HS.out)))
          clear hg5 B5 CO2 hld5 HS
          go_wp2_with fail
          my_round ⟨i + 1, hltH.out, by rw [hq2.out], by go_num, H5⟩
          case measure => have := hltH.out; (first | (change mn - ((i : Int) + 1).toNat < mn - (i : Int).toNat; omega) | (simp [RowKit.intOf]; omega))

    · obtain rfl : i = mn := by omega
      have j0 : ¬ ((i : Int) < (i : Int)) := by omega
      replace hp := hide hp
      have j5 : ¬ ((mx : Int) < 0) := by omega
      have j6 : decide ((mx : Int) < 0) = false := decide_eq_false j5
      go_wp2_with fail
      clear c5 c6 c7
      go_loopw [2, 14] (fun av iv wr => ∃ k : Nat, i ≤ k ∧ k ≤ mx ∧ av = .int .i64 ((a + sumN (L.take k) : Nat) : Int) ∧ iv = .int .i64 (k : Int) ∧ Hid (St (fun k => k = g) w wr [(true, gb, 27, reA 4 noSet (.slice (some ⟨b, 0, none⟩) 1 vc) (i : Int) (mx : Int)), (true, g, 45, (flatI (layI I a (pz L k a m))).toArray)])) (fun _ iv _ => mx - (RowKit.intOf iv).toNat)
      case atStart => exact ⟨i, Nat.le_refl _, hmn, by rw [hp.out], rfl, Hr⟩
      case round =>
        clear hpn hpn2
        obtain ⟨k, hik, hkx, rfl, rfl, Hs⟩ := hrel
        have c5 := Hs.out.cell 0 5 rfl (v := .slice (some ⟨b, 0, none⟩) 1 vc) rfl
        have c6 := Hs.out.cell 0 6 rfl (v := .int .i64 (i : Int)) rfl
        have c7 := Hs.out.cell 0 7 rfl (v := .int .i64 (mx : Int)) rfl
        obtain ⟨p, hp⟩ : ∃ p, a + sumN (L.take k) = p := ⟨_, rfl⟩
        rw [hp]
        have hpn : p ≤ n := by have := sumN_take_le L k; have := haH.out; omega
        have hpn2 : p ≤ 2048 := by omega
        by_cases hlt : k < mx
        · have j1 : (k : Int) < (mx : Int) := by omega
          have AT := hide (LAT2.out k hik hlt)
          have e1 := sumN_tk AT.out
          have e2 := sumN_take_le L (k + 1)
          have e3 := haH.out
          have e5 : (opt (cdT (n1, k1)) m).n = 1 + c := by simp only [opt]; rw [hcn.out]
          obtain ⟨p1, hp1⟩ : ∃ p1, p + 1 = p1 := ⟨_, rfl⟩
          obtain ⟨q, hq⟩ : ∃ q, p1 + c = q := ⟨_, rfl⟩
          obtain ⟨c1, hc1⟩ : ∃ c1, c + 1 = c1 := ⟨_, rfl⟩
          have f0 : (p : Int) + 1 = (p1 : Int) := by omega
          have f1 : (p1 : Int) + (c : Int) = (q : Int) := by omega
          have f2 : (c : Int) + 1 = (c1 : Int) := by omega
          have f3 : (p : Int) + (c1 : Int) = (q : Int) := by omega
          have hqn : q ≤ n := by omega
          have hqn2 : q ≤ 2048 := by omega
          have hp1n : p1 ≤ 2048 := by omega
          have hc1n : c1 ≤ 2049 := by omega
          have j2 : (p : Int) < (n : Int) := by omega
          have hplen : Hid ((pz L k a m).length = sumN (L.take k)) := pz_len (L := L) (i := k) (by rw [hLl.out]; omega) a m
          have hlen : Hid ((layI I a (pz L k a m)).length = n) := by
            have := hIH.out
            have e := hplen.out
            show _ = _
            rw [layI_len (by omega)]; exact this
          have hk : Hid (p < (layI I a (pz L k a m)).length) := by show _ < _; rw [hlen.out]; omega
          have hlen2 : Hid ((layI (layI I a (pz L k a m)) p [⟨2, noSet, (p1 : Int), (m : Int)⟩]).length = n) := by
            have e := hlen.out
            show _ = _
            rw [layI_len (by rw [e]; simp; omega)]; exact e
          have hstep : Hid (∀ nx, nx = (if k + 1 = mx then m else q) → layI (layI (layI I a (pz L k a m)) p [⟨2, noSet, (p1 : Int), (m : Int)⟩]) p1 ((cdT (n1, k1)).put p1 nx) = layI I a (pz L (k + 1) a m)) := by
            intro nx hnx
            have e := hplen.out
            have e2 := hIH.out
            have e3 := hlen.out
            rw [layI_lay' (by simp; omega) (by rw [e3]; simp; omega), layI_lay' (by omega) (by omega), pz_step AT.out, hLl.out, hp, e5, show p + (1 + c) = q by omega, hnx, ← hp1]
            simp only [opt, List.singleton_append]
          have hfit : Hid (p1 + (cdT (n1, k1)).n ≤ n) := by show _ ≤ _; rw [hcn.out]; omega
          have hq2 : Hid (a + sumN (L.take (k + 1)) = q) := by show _ = _; omega
          have hkH := hide hlt
          replace hp := hide hp
          replace hp1 := hide hp1
          replace hq := hide hq
          replace hc1 := hide hc1
          clear e1 e2 e3 e5
          by_cases hl : k + 1 = mx
          · have HS := hide (hstep.out m (by rw [if_pos hl]))
            have t1 : (mx : Int) - 1 = (k : Int) := by omega
            clear hl
            go_wp2_with (first | ((with_reducible refine at_build 45 ?_); refine wl_val (run_buildI22 _ (p1 : Int) (m : Int) rfl rfl rfl _) ?_) | ((with_reducible refine at_store 45 ?_); refine wl_storeRow 1 Hs.out (q := ⟨2, noSet, (p1 : Int), (m : Int)⟩) rfl hk.out rfl rfl ?_; clear Hs c5 c6 c7; intro w5 H5; obtain ⟨b5, u5, hb5, hld5, _, CO5⟩ := KID.out w5 H5.but; cases hb5; replace hld5 := hide hld5; have CO5' := hide (CO5 _ p1 m hlen2.out (H5.get 1 rfl) hfit.out (by omega)); clear CO5; have c55 := H5.cell 0 5 rfl (v := .slice (some ⟨b, 0, none⟩) 1 vc) rfl; have c57 := H5.cell 0 7 rfl (v := .int .i64 (mx : Int)) rfl; replace H5 := hide H5) | ((with_reducible refine at_load 27 ?_); refine wl_loadA 27 rfl hld5.out ?_))
            refine CO5'.out.mono ?_
            rintro e w6 ⟨rfl, B6, hg6⟩
            have H6 := hide (H5.out.codeE B6 (hg6.trans (congrArg (fun z => some (Obj.cells (flatI z).toArray 45 (0, 0))) HS.out)))
            clear hg6 B6 CO5' hld5 HS c55 c57 H5
            go_wp2_with fail
            my_round ⟨k + 1, by omega, hkH.out, by rw [hq2.out], by go_num, H6⟩
            case measure => have := hkH.out; (first | (change mx - ((k : Int) + 1).toNat < mx - (k : Int).toNat; omega) | (simp [RowKit.intOf]; omega))
          · have HS := hide (hstep.out q (by rw [if_neg hl]))
            have t1 : ¬ ((k : Int) = (mx : Int) - 1) := by omega
            have t2 : decide ((k : Int) = (mx : Int) - 1) = false := decide_eq_false t1
            clear hl
            go_wp2_with (first | ((with_reducible refine at_build 45 ?_); refine wl_val (run_buildI22 _ (p1 : Int) (m : Int) rfl rfl rfl _) ?_) | ((with_reducible refine at_store 45 ?_); refine wl_storeRow 1 Hs.out (q := ⟨2, noSet, (p1 : Int), (m : Int)⟩) rfl hk.out rfl rfl ?_; clear Hs c5 c6 c7; intro w5 H5; obtain ⟨b5, u5, hb5, hld5, _, CO5⟩ := KID.out w5 H5.but; cases hb5; replace hld5 := hide hld5; have CO5' := hide (CO5 _ p1 q hlen2.out (H5.get 1 rfl) hfit.out (by omega)); clear CO5; have c55 := H5.cell 0 5 rfl (v := .slice (some ⟨b, 0, none⟩) 1 vc) rfl; have c57 := H5.cell 0 7 rfl (v := .int .i64 (mx : Int)) rfl; replace H5 := hide H5) | ((with_reducible refine at_load 27 ?_); refine wl_loadA 27 rfl hld5.out ?_))
            refine CO5'.out.mono ?_
            rintro e w6 ⟨rfl, B6, hg6⟩
            have H6 := hide (H5.out.codeE B6 (hg6.trans (congrArg (fun z => some (Obj.cells (flatI z).toArray 45 (0, 0))) HS.out)))
            clear hg6 B6 CO5' hld5 HS c55 c57 H5
            go_wp2_with fail
            my_round ⟨k + 1, by omega, hkH.out, by rw [hq2.out], by go_num, H6⟩
            case measure => have := hkH.out; (first | (change mx - ((k : Int) + 1).toNat < mx - (k : Int).toNat; omega) | (simp [RowKit.intOf]; omega))
        · obtain rfl : k = mx := by omega
          have HF : Hid (pz L k a m = sqP L a m) := by have := pz_all L a m; rw [hLl.out] at this; exact this
          rw [HF.out] at Hs
          replace hp := hide hp
          go_wp2_with fail
          go_end0
          exact ⟨rfl, Hs.out.but, Hs.out.get 1 rfl⟩
end Go.Proofs.YtkgegjnkkbgghaaDoor
namespace Go.Proofs.YtkgegjnkkbgghaaDoor
open Go.RowKit
set_option linter.unusedVariables false
set_option linter.unusedSimpArgs false

theorem code_any : ∀ (N : Nat) (t : Tr), szT t ≤ N → ∀ (P : Nat → Prop) (v : Value) (w : World), TrV w P (reV t.1.k t.1.s v t.1.mn t.1.mx) t → fitT t → szT t ≤ 4096 → ∀ (g n : Nat) (I : List Ins) (a m : Nat), ¬ P g → I.length = n → w.heap[g]? = some (.cells (flatI I).toArray 45 (0, 0)) → n ≤ 2048 → a + (cdT t).n ≤ n → m ≤ 4096 →
    Calls Tryd.prog 23 #[.slice (some ⟨g, 0, none⟩) n n, reV t.1.k t.1.s v t.1.mn t.1.mx, .int .i64 (a : Int), .int .i64 (m : Int)] w (CodE g I a ((cdT t).put a m) w) := by
  intro N
  induction N with
  | zero => intro t h; simp [szT] at h
  | succ N ih =>
    intro t hN P v w T hf hsz g n I a m hPg hI hg hn ha hm
    obtain ⟨va, vc, rfl⟩ := T.sl
    have hl := len_le_sz t.2
    have hs1 : szT t = 1 + t.2.sz := rfl
    have K : CoK t.2 va g n w := ⟨fun w' hb i hi => by
      obtain ⟨b, c, u, hv, hld, Tk⟩ := TrV.kid (T.kept (fun b hb2 hl => hb.block b hl (fun e => hPg (e ▸ hb2)))) (i := i) hi
      obtain ⟨e1, _⟩ : va = some ⟨b, 0, none⟩ ∧ vc = c := by simpa using hv
      have hk := nth_sz t.2 i hi
      exact ⟨b, u, e1, hld, rct_any _ (t.2.nth i) (Nat.le_refl _) P u w' Tk (fitT_nth hf.2 hi) (by omega), fun I a m h1 h2 h3 h4 => ih (t.2.nth i) (by omega) P u w' Tk (fitT_nth hf.2 hi) (by omega) g n I a m hPg h1 h2 hn h3 h4⟩⟩
    clear T ih
    obtain ⟨⟨k, s, mn, mx⟩, f⟩ := t
    obtain ⟨⟨h1, h2, h3, h4⟩, hff⟩ := hf
    simp only at *
    have hn2 : f.len ≤ 5000 := by omega
    have cl := Fo.cds_len f
    rcases h4 with ⟨rfl, h0⟩ | rfl | rfl | rfl
    · obtain ⟨rfl, rfl⟩ := h3 (by decide)
      rw [cd_fit1] at ha
      have e : (cdT (⟨1, s, 0, 0⟩, f)).put a m = [⟨1, s, (m : Int), 0⟩] := by simp [cdT, cdN, sgl]
      rw [e]
      exact cc1 s va f.len vc g n I hI a m w hg (by omega) hn hm
    · obtain ⟨rfl, rfl⟩ := h3 (by decide)
      have e : (cdT (⟨2, s, 0, 0⟩, f)).put a m = sqP f.cds a m := by simp [cdT, cdN, sqn]
      rw [cd_fit2] at ha
      rw [e]
      by_cases h0 : f.len = 0
      · have hc : f.cds = [] := List.eq_nil_of_length_eq_zero (by omega)
        rw [hc, h0]
        exact cc2z s va vc g n I hI a m w hg hn hm (by omega)
      · exact cc2 s f va f.len vc g n I hI a m w hg hn hm rfl h0 hn2 (by omega) K
    · obtain ⟨rfl, rfl⟩ := h3 (by decide)
      have e : (cdT (⟨3, s, 0, 0⟩, f)).put a m = chP f.cds a m := by simp [cdT, cdN, chc]
      rw [cd_fit3] at ha
      rw [e]
      by_cases h0 : f.len = 0
      · have hc : f.cds = [] := List.eq_nil_of_length_eq_zero (by omega)
        have := chN_pos f.cds
        rw [hc, h0]
        exact cc3z s va vc g n I hI a m w hg hn hm (by omega)
      · exact cc3 s f va f.len vc g n I hI a m w hg hn hm rfl h0 hn2 (by omega) K
    · obtain rfl := h1 (by decide)
      obtain ⟨hl1, ha0⟩ := h2 rfl
      have ha2 : 0 ≤ mn ∧ mn ≤ 64 ∧ (mx = -1 ∨ mn ≤ mx ∧ mx ≤ 64) := by
        unfold arT at ha0
        simp at ha0
        omega
      obtain ⟨a1, a2, a3⟩ := ha2
      obtain ⟨n1, k1, rfl⟩ : ∃ n1 k1, f = .cons n1 k1 .nil := by
        cases f with
        | nil => simp [Fo.len] at hl1
        | cons n1 k1 r => cases r with
          | nil => exact ⟨n1, k1, rfl⟩
          | cons _ _ _ => simp [Fo.len] at hl1
      rw [hl1]
      obtain ⟨mn, rfl⟩ := Int.eq_ofNat_of_zero_le a1
      have e : cdT (⟨4, noSet, (mn : Int), mx⟩, .cons n1 k1 .nil) = rp (cdT (n1, k1)) mn mx := by simp [cdT, cdN, Fo.cds]
      rw [e] at ha ⊢
      by_cases hm1 : mx = -1
      · subst hm1
        have e2 : (rp (cdT (n1, k1)) mn (-1)).put a m = sqP (List.replicate mn (cdT (n1, k1)) ++ [lp (cdT (n1, k1))]) a m := by show sqP (rpL _ _ _ _) a m = _; rw [rpL_a]
        have e3 : (rp (cdT (n1, k1)) mn (-1)).n = max 1 (sumN (List.replicate mn (cdT (n1, k1)) ++ [lp (cdT (n1, k1))])) := by show max 1 (sumN (rpL _ _ _ 0)) = _; rw [rpL_a]
        rw [e2]
        rw [e3] at ha
        exact cc4a n1 k1 mn (by omega) va vc g n I hI a m w hg hn hm _ rfl (by rw [sumN_append]; simp only [sumN, lp]; omega) (by omega) K
      · obtain ⟨mx, rfl⟩ := Int.eq_ofNat_of_zero_le (a := mx) (by omega)
        have e2 : (rp (cdT (n1, k1)) mn (mx : Int)).put a m = sqP (List.replicate mn (cdT (n1, k1)) ++ List.replicate (mx - mn) (opt (cdT (n1, k1)) m)) a m := by show sqP (rpL _ _ _ _) a m = _; rw [rpL_b]
        have e3 : (rp (cdT (n1, k1)) mn (mx : Int)).n = max 1 (sumN (List.replicate mn (cdT (n1, k1)) ++ List.replicate (mx - mn) (opt (cdT (n1, k1)) m))) := by
          show max 1 (sumN (rpL _ _ _ 0)) = _
          rw [← rpL_b, rpL_sum, rpL_sum]
        rw [e2]
        rw [e3] at ha
        by_cases hx0 : mx = 0
        · subst hx0
          obtain rfl : mn = 0 := by omega
          exact cc4z n1 k1 va vc g n I hI a m w hg hn hm (by omega) K
        · refine cc4b n1 k1 mn mx (by omega) (by omega) (by omega) va vc g n I hI a m w hg hn hm _ rfl ?_ (by omega) K
          rw [sumN_append, sumN_rep, sumN_rep]
          have e4 : (opt (cdT (n1, k1)) m).n = 1 + (cdT (n1, k1)).n := rfl
          rw [e4]
          rcases Nat.eq_zero_or_pos mn with h | h
          · have := Nat.le_mul_of_pos_left (1 + (cdT (n1, k1)).n) (n := mx - mn) (by omega)
            omega
          · have := Nat.le_mul_of_pos_left (cdT (n1, k1)).n h
            omega
set_option maxHeartbeats 2000000 in
set_option maxRecDepth 100000 in
theorem rcount_no (t : Tr) (P : Nat → Prop) (v : Value) (w : World) (T : TrV w P (reV t.1.k t.1.s v t.1.mn t.1.mx) t) (hf : ¬ fitT t) (hsz : szT t ≤ 4096) (hdp : dpT t ≤ 128) : Calls Tryd.prog 12 #[reV t.1.k t.1.s v t.1.mn t.1.mx] w fun e w' => e = .returned (.tuple #[.int .i64 0, .int .i64 2]) ∧ Below w.heap.size w w' := by
  have H := St.start Nope w
  have hT : Hid (TrV w P (reV t.1.k t.1.s v t.1.mn t.1.mx) t) := T
  have CH := hide (fun w' T => rcheck_any t P v w' T hsz hdp)
  rw [shB_no hf] at CH
  obtain ⟨va, vc, rfl⟩ := T.sl
  clear T
  go_enter Tryd.func12, Tryd.ntmps12
  go_wp2_with (first | ((with_reducible refine at_box 27 ?_); refine wl_box28 H rfl ?_; clear H; intro g1 w1 H q1 q2) | ((with_reducible refine at_load 27 ?_); refine wl_load28 0 H rfl rfl ?_))
  refine (CH.out _ (hT.out.kept (fun b _ hl => H.below.block b hl))).mono ?_
  rintro e w2 ⟨rfl, B2⟩
  replace H := H.call B2 (Nat.le_refl _)
  go_wp2_with fail
  go_ret2
  exact ⟨rfl, H.below⟩
set_option maxHeartbeats 2000000 in
set_option maxRecDepth 100000 in
theorem rcount_ok (t : Tr) (P : Nat → Prop) (v : Value) (w : World) (T : TrV w P (reV t.1.k t.1.s v t.1.mn t.1.mx) t) (hf : fitT t) (hsz : szT t ≤ 4096) (hdp : dpT t ≤ 128) (R : Nat) (hR : R = min (prg t).n cap) : Calls Tryd.prog 12 #[reV t.1.k t.1.s v t.1.mn t.1.mx] w fun e w' => e = .returned (.tuple #[.int .i64 (R : Int), .int .i64 0]) ∧ Below w.heap.size w w' := by
  have H := St.start Nope w
  have hT : Hid (TrV w P (reV t.1.k t.1.s v t.1.mn t.1.mx) t) := T
  have CH := hide (fun w' T => rcheck_any t P v w' T hsz hdp)
  rw [shB_yes hf] at CH
  obtain ⟨c, hc⟩ : ∃ c, min (cdT t).n cap = c := ⟨_, rfl⟩
  have hcb : c ≤ 1048576 := cap_le (K := cap) hc
  have CT := hide (fun w' T => rct_any (szT t) t (Nat.le_refl _) P v w' T hf hsz)
  rw [hc] at CT
  rw [prg_n] at hR
  obtain ⟨c1, hc1⟩ : ∃ c1, c + 1 = c1 := ⟨_, rfl⟩
  have e1 : (c : Int) + 1 = (c1 : Int) := by omega
  have hc1b : c1 ≤ 1048577 := by omega
  have hm : min c1 1048576 = R := by unfold cap at hc hR; omega
  have hRb : R ≤ 1048576 := by omega
  obtain ⟨f1, f2, _, _, _⟩ := mins5 c1 R hm
  obtain ⟨va, vc, rfl⟩ := T.sl
  replace hc := hide hc
  replace hR := hide hR
  replace hf := hide hf
  clear T hm hc1
  go_enter Tryd.func12, Tryd.ntmps12
  go_wp2_with (first | ((with_reducible refine at_box 27 ?_); refine wl_box28 H rfl ?_; clear H; intro g1 w1 H q1 q2) | ((with_reducible refine at_load 27 ?_); refine wl_load28 0 H rfl rfl ?_))
  refine (CH.out _ (hT.out.kept (fun b _ hl => H.below.block b hl))).mono ?_
  rintro e w2 ⟨rfl, B2⟩
  replace H := H.call B2 (Nat.le_refl _)
  go_wp2_with (first | ((with_reducible refine at_load 27 ?_); refine wl_load28 0 H rfl rfl ?_))
  refine (CT.out _ (hT.out.kept (fun b _ hl => H.below.block b hl))).mono ?_
  rintro e w3 ⟨rfl, B3⟩
  replace H := H.call B3 (Nat.le_refl _)
  go_wp2_with fail
  go_ret2
  exact ⟨rfl, H.below⟩
theorem flat_rep (n : Nat) : ∀ j, j < n * 7 → (flatI (List.replicate n ins0))[j]? = (insA ins0)[j % 7]? := by
  intro j hj
  have hlt : j % 7 < (insA ins0).size := by show j % 7 < 7; omega
  have hu : (insA ins0)[j % 7]? = some ((insA ins0)[j % 7]'hlt) := Array.getElem?_eq_getElem hlt
  have := flatI_at (List.replicate n ins0) (j / 7) ins0 (by rw [List.getElem?_replicate, if_pos (by omega)]) (j % 7) _ hu
  rw [show j / 7 * 7 + j % 7 = j by omega] at this
  rw [this, hu]
theorem made7 (n : Nat) : madeCells (insV ins0).cells (n * 7) = (flatI (List.replicate n ins0)).toArray := by
  apply Array.ext'
  apply List.ext_getElem?
  intro j
  by_cases hj : j < n * 7
  · have h := flat_rep n j hj
    simp only [h]
    rcases (show j % 7 = 0 ∨ j % 7 = 1 ∨ j % 7 = 2 ∨ j % 7 = 3 ∨ j % 7 = 4 ∨ j % 7 = 5 ∨ j % 7 = 6 by omega) with h | h | h | h | h | h | h <;>
      simp [madeCells, hj, h, insV, insA, ins0, noSet, Value.cells]
  · rw [List.getElem?_eq_none (by simp [madeCells]; omega), List.getElem?_eq_none (by simp [flatI_len]; omega)]
section
variable {S : Nat → Prop} {w0 w w' : World} {L : List Ent} {ops : Array Oper} {rest : List Oper} {o : Oper} {a : Act} {Q : Exit → Act → World → Prop} {dst : Option Nat} {x y : Operand} {ty : TypeId} {pos : String} {after : Array Edge}
theorem at_makeI (t : TypeId) (h : wpList Tryd.prog ops Q (⟨dst, .makeSlice t x y, ty, pos, after, none⟩ :: rest) a w) : wpList Tryd.prog ops Q (⟨dst, .makeSlice t x y, ty, pos, after, none⟩ :: rest) a w := h
theorem wl_makeI (H : St S w0 w L) {n : Nat} (hn : n ≤ 100000) (hx : a.eval x = .int .i64 (n : Int)) (hy : a.eval y = .int .i64 (n : Int)) (k : ∀ g w2, w.heap.size ≤ g → St S w0 w2 ((true, g, 45, (flatI (List.replicate n ins0)).toArray) :: L) → wpList Tryd.prog ops Q rest (a.put dst (.slice (some ⟨g, 0, none⟩) n n)) w2) :
    wpList Tryd.prog ops Q (⟨dst, .makeSlice 29 x y, ty, pos, after, none⟩ :: rest) a w := by
  obtain ⟨i, hi, hz, hs, hb⟩ := infoI
  have hr := run_make (P := Tryd.prog) w 29 45 i (insV ins0) Tryd.underlying29 hi hz .i64 .i64 (n : Int) (n : Int) (by omega) (Int.le_refl _) (by rw [hb]; omega) (by omega)
  refine wl_val (w' := w.alloc (.cells (madeCells (insV ins0).cells (n * 7)) 45)) ?_ (k _ _ (Nat.le_refl _) (by rw [made7 n]; exact H.alloc 45 _))
  unfold execOp
  simp only [hx, hy, Sem.run_bind, hr, Result.andThen_ok, Sem.run_pure, Int.toNat_natCast, hs]
end
theorem layI_all {I X : List Ins} (h : X.length = I.length) : layI I 0 X = X := by
  unfold layI
  rw [List.drop_eq_nil_of_le (by omega)]
  simp
theorem RI_of {w : World} {g n : Nat} {L : List Ins} (hl : L.length = n) (hn : n ≤ 2048) (hg : w.heap[g]? = some (.cells (flatI L).toArray 45 (0, 0))) : RI w (.slice (some ⟨g, 0, none⟩) n n) L := by
  refine ⟨flatI_len L, .inr ⟨g, n, _, by rw [hl], Nat.zero_le _, hg, by omega, by unfold maxLen; omega, by simp [flatI_len, hl], ?_⟩⟩
  rw [← flatI_len]
  simp
end Go.Proofs.YtkgegjnkkbgghaaDoor
namespace Go.Proofs.YtkgegjnkkbgghaaDoor
open Go.RowKit
set_option linter.unusedVariables false
set_option linter.unusedSimpArgs false

set_option maxHeartbeats 2000000 in
set_option maxRecDepth 100000 in
theorem rmake_any (t : Tr) (P : Nat → Prop) (v : Value) (w : World) (T : TrV w P (reV t.1.k t.1.s v t.1.mn t.1.mx) t) (hsz : szT t ≤ 4096) (hdp : dpT t ≤ 128) : Calls Tryd.prog 10 #[reV t.1.k t.1.s v t.1.mn t.1.mx] w (MakeA t w) := by
  have H := St.start Nope w
  have hT : Hid (TrV w (fun b => P b ∧ b < w.heap.size) (reV t.1.k t.1.s v t.1.mn t.1.mx) t) := T.mono (fun b h1 h2 => ⟨h2, h1⟩)
  obtain ⟨va, vc, rfl⟩ := T.sl
  clear T
  by_cases hf : fitT t
  · obtain ⟨R, hR⟩ : ∃ R, R = min (prg t).n cap := ⟨_, rfl⟩
    have CT := hide (fun w' T => rcount_ok t (fun b => P b ∧ b < w.heap.size) (.slice va t.2.len vc) w' T hf hsz hdp R hR)
    by_cases hbig : 2048 < (prg t).n
    · have hE := mkE_big hf hbig
      have hR1 : 2048 < R := by unfold cap at hR; omega
      have hR2 : R ≤ 1048576 := by unfold cap at hR; omega
      have hR3 : (2048 : Int) < (R : Int) := by omega
      have hR4 : decide ((2048 : Int) < (R : Int)) = true := decide_eq_true hR3
      replace hR := hide hR
      replace hE := hide hE
      replace hf := hide hf
      clear hbig
      go_enter Tryd.func10, Tryd.ntmps10
      go_wp2_with (first | ((with_reducible refine at_box 27 ?_); refine wl_box28 H rfl ?_; clear H; intro g1 w1 H q1 q2) | ((with_reducible refine at_load 27 ?_); refine wl_load28 0 H rfl rfl ?_))
      refine (CT.out _ (hT.out.kept (fun b _ hl => H.below.block b hl))).mono ?_
      rintro e w2 ⟨rfl, B2⟩
      replace H := H.call B2 (Nat.le_refl _)
      go_wp2_with fail
      go_ret2
      exact ⟨H.below, none, 0, 0, by rw [hE.out]; rfl, fun _ => ⟨rfl, rfl, rfl⟩, fun h => by rw [hE.out] at h; cases h⟩
    · have hE := mkE_ok hf (by omega)
      have hRn : R = (prg t).n := by unfold cap at hR; omega
      have hlen : Hid (((prg t).put 0 0).length = R) := by show _ = _; rw [(prg t).len]; exact hRn.symm
      have hpn := prg_n t
      obtain ⟨c, hc⟩ : ∃ c, (cdT t).n = c := ⟨_, rfl⟩
      have hR2 : R ≤ 2048 := by omega
      have hR3 : ¬ ((2048 : Int) < (R : Int)) := by omega
      have hR4 : decide ((2048 : Int) < (R : Int)) = false := decide_eq_false hR3
      have e1 : (R : Int) - 1 = (c : Int) := by omega
      have hcR : (c : Int) < (R : Int) := by omega
      have hcR2 : c < R := by omega
      have hcb : c ≤ 2048 := by omega
      have hk : Hid (c < (layI (List.replicate R ins0) 0 ((cdT t).put 0 c)).length) := by
        show _ < _
        rw [layI_len (by rw [(cdT t).len]; simp; omega)]
        simp; omega
      have HS : Hid (layI (layI (List.replicate R ins0) 0 ((cdT t).put 0 c)) c [⟨3, noSet, 0, 0⟩] = (prg t).put 0 0) := by
        show _ = _
        rw [layI_lay' (by rw [(cdT t).len]; omega) (by rw [(cdT t).len]; simp; omega), prg_put, hc]
        refine layI_all ?_
        simp [(cdT t).len]; omega
      have COD : Hid (∀ w', TrV w' (fun b => P b ∧ b < w.heap.size) (reV t.1.k t.1.s (.slice va t.2.len vc) t.1.mn t.1.mx) t → ∀ g, ¬ (P g ∧ g < w.heap.size) → w'.heap[g]? = some (.cells (flatI (List.replicate R ins0)).toArray 45 (0, 0)) → Calls Tryd.prog 23 #[.slice (some ⟨g, 0, none⟩) R R, reV t.1.k t.1.s (.slice va t.2.len vc) t.1.mn t.1.mx, .int .i64 0, .int .i64 (c : Int)] w' (CodE g (List.replicate R ins0) 0 ((cdT t).put 0 c) w')) := by
        intro w' T g hg hI
        have h := code_any (szT t) t (Nat.le_refl _) (fun b => P b ∧ b < w.heap.size) (.slice va t.2.len vc) w' T hf hsz g R (List.replicate R ins0) 0 c hg (by simp) hI hR2 (by omega) (by omega)
        rw [show ((0 : Nat) : Int) = 0 from rfl] at h
        exact h
      replace hR := hide hR
      replace hE := hide hE
      replace hf := hide hf
      replace hc := hide hc
      replace hRn := hide hRn
      replace hpn := hide hpn
      clear hbig
      go_enter Tryd.func10, Tryd.ntmps10
      go_wp2_with (first | ((with_reducible refine at_box 27 ?_); refine wl_box28 H rfl ?_; clear H; intro g1 w1 H q1 q2) | ((with_reducible refine at_load 27 ?_); refine wl_load28 0 H rfl rfl ?_))
      refine (CT.out _ (hT.out.kept (fun b _ hl => H.below.block b hl))).mono ?_
      rintro e w2 ⟨rfl, B2⟩
      replace H := H.call B2 (Nat.le_refl _)
      go_wp2_with (first | ((with_reducible refine at_makeI 29 ?_); refine wl_makeI H (n := R) (by omega) rfl rfl ?_; intro g3 w3 q5 H3) | ((with_reducible refine at_load 27 ?_); refine wl_load28 1 H3 rfl rfl ?_))
      have hg3 : w.heap.size ≤ g3 := by have := H.below.size; omega
      have TK := hT.out.kept (fun b _ hl => H3.below.block b hl)
      have CC := hide (COD.out _ TK g3 (fun h => by have := h.2; omega) (H3.get 0 rfl))
      refine CC.out.mono ?_
      rintro e w4 ⟨rfl, B4, hg4⟩
      have hne : g3 ≠ g1 := by have := H3.nd; simp at this; exact this
      have H4 := H3.callS B4 (fun i hi h => by have : i = g3 := h; omega) (M := [(true, g3, 45, (flatI (layI (List.replicate R ins0) 0 ((cdT t).put 0 c))).toArray), (true, g1, 27, reA t.1.k t.1.s (.slice va t.2.len vc) t.1.mn t.1.mx)]) rfl (fun x hx => by
        rcases List.mem_cons.1 hx with rfl | hx
        · exact .inr hg4
        · rw [List.mem_singleton.1 hx]; exact .inl ⟨by simp, fun h => hne h.symm⟩)
      clear B4 hg4 H H3 B2 CT COD CC TK
      go_wp2_with (first | ((with_reducible refine at_build 45 ?_); refine wl_val (run_buildI1 _ 3 rfl _) ?_) | ((with_reducible refine at_store 45 ?_); refine wl_storeRow 0 H4 (q := ⟨3, noSet, 0, 0⟩) rfl hk.out rfl rfl ?_; clear H4; intro w5 H5))
      go_ret2
      have hg5 := H5.get 0 rfl
      rw [HS.out] at hg5
      refine ⟨H5.below, some ⟨g3, 0, none⟩, R, R, by rw [hE.out]; rfl, fun h => absurd hE.out h, fun _ => ⟨hlen.out.symm, RI_of hlen.out hR2 hg5, fun k hk => ?_⟩⟩
      have : g3 = k := by simpa [Value.ownBlock] using hk
      omega
  · have hE := mkE_no hf
    have CT := hide (fun w' T => rcount_no t (fun b => P b ∧ b < w.heap.size) (.slice va t.2.len vc) w' T hf hsz hdp)
    replace hf := hide hf
    replace hE := hide hE
    go_enter Tryd.func10, Tryd.ntmps10
    go_wp2_with (first | ((with_reducible refine at_box 27 ?_); refine wl_box28 H rfl ?_; clear H; intro g1 w1 H q1 q2) | ((with_reducible refine at_load 27 ?_); refine wl_load28 0 H rfl rfl ?_))
    refine (CT.out _ (hT.out.kept (fun b _ hl => H.below.block b hl))).mono ?_
    rintro e w2 ⟨rfl, B2⟩
    replace H := H.call B2 (Nat.le_refl _)
    go_wp2_with fail
    go_ret2
    exact ⟨H.below, none, 0, 0, by rw [hE.out]; rfl, fun _ => ⟨rfl, rfl, rfl⟩, fun h => by rw [hE.out] at h; cases h⟩
end Go.Proofs.YtkgegjnkkbgghaaDoor
