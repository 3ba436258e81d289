/-
  The parser's closures, first part: together, what lies in memory, atom, piece.
-/
import Derived.Test.YtnbhpojcckhlmaaDoorM
namespace Go.Proofs.YtnbhpojcckhlmaaDoor
open Go.RowKit
set_option linter.unusedVariables false
set_option linter.unusedSimpArgs false

set_option maxHeartbeats 2000000 in
theorem together_any (k : Int) (f : Fo) (v : Value) (w : World) (P : Nat → Prop) (xs : List Value) (ho : w.ownsRow 0 28 8 v f.len xs) (hp : ∀ b, v.ownBlock = some b → P b) (hk : Kd w P f xs) :
    Calls Tryd.prog 35 #[.int .i64 k, v] w fun e w' => ∃ x, e = .returned x ∧ TrV w' P x (tog k f) ∧ Below w.heap.size w w' := by
  have H := St.start Nope w
  obtain ⟨a, cap, rfl, hc1, hc2⟩ := owns8_val ho
  by_cases h1 : f.len = 1
  · obtain ⟨nd, kids, rfl⟩ : ∃ nd kids, f = .cons nd kids .nil := by
      cases f with
      | nil => simp [Fo.len] at h1
      | cons nd kids r => cases r with
        | nil => exact ⟨nd, kids, rfl⟩
        | cons _ _ _ => simp [Fo.len] at h1
    obtain ⟨v, ys, zs, e, o2, p2, k1, k2⟩ := hk
    have e2 : ys = [] := k2
    subst e2
    have hcell : ∃ b, a = some ⟨b, 0, none⟩ ∧ b < w.heap.size ∧ ∀ j u, (reA nd.k nd.s v nd.mn nd.mx)[j]? = some u → w.cell? ⟨b, 0 + j, none⟩ = some u := by
      rcases ho.2 with ⟨_, h0⟩ | ⟨g, cap', cur, hv, _, hg, _⟩
      · simp [Fo.len] at h0
      · cases hv
        refine ⟨g, rfl, (Array.getElem?_eq_some_iff.1 hg).1, fun j u hj => ?_⟩
        have := ho.cells (g := g) rfl j u (by rw [e]; simpa using hj)
        rw [add_plain] at this
        exact this
    obtain ⟨b, rfl, hb, hcell⟩ := hcell
    obtain ⟨va, vc, hv, _, _⟩ := owns8_val o2
    subst hv
    simp only [Fo.len, Nat.zero_add] at h1 ⊢
    have T : Hid (TrV w P (reV nd.k nd.s (.slice va kids.len vc) nd.mn nd.mx) (nd, kids)) := ⟨_, zs, rfl, o2, p2, k1⟩
    have hl := hide (fun w' (hb' : Below w.heap.size w w') => load28c (w := w') (b := b) (o := 0) (fun j u hj => (hb'.cell (p := ⟨b, 0 + j, none⟩) hb).trans (hcell j u hj)))
    clear hcell ho o2 p2 k1 k2 e hp
    go_enter Tryd.func35, Tryd.ntmps35
    go_wp2_with (first | (with_reducible refine at_alloc 28 ?_; refine wl_alloc28 H ?_; clear H; intro g w' H q1 q2) | (with_reducible refine at_load 28 ?_; refine wl_loadA 28 rfl (hl.out _ H.below) ?_) | (with_reducible refine at_store 28 ?_; refine wl_store28 0 H rfl rfl rfl rfl ?_; clear H; intro w' H))
    refine bodyPost_ret (results_cell0 rfl _ _ _ _ rfl (load28 (H.get 0 rfl))) rfl ?_
    refine ⟨_, rfl, ?_, H.below⟩
    exact T.out.kept (fun b' hP hb' => H.below.block b' hb')
  · have e : Hid (tog k f = (⟨k, noSet, 0, 0⟩, f)) := by
      show tog k f = _
      cases f with
      | nil => rfl
      | cons nd kids r => cases r with
        | nil => simp [Fo.len] at h1
        | cons _ _ _ => rfl
    have h2 : ((f.len : Int) == 1) = false := beq_eq_false_iff_ne.2 (by omega)
    have T : Hid (TrV w P (reV k noSet (.slice a f.len cap) 0 0) (⟨k, noSet, 0, 0⟩, f)) := ⟨_, xs, rfl, ho, hp, hk⟩
    clear ho hp hk
    replace h1 := hide h1
    go_enter Tryd.func35, Tryd.ntmps35
    go_wp2_with (first | (with_reducible refine at_alloc 28 ?_; refine wl_alloc28 H ?_; clear H; intro g w' H q1 q2) | (with_reducible refine at_store 28 ?_; refine wl_store28 0 (n' := k) (s' := noSet) (l' := .slice a f.len cap) (mn' := 0) (mx' := 0) H rfl rfl rfl rfl ?_; clear H; intro w' H))
    refine bodyPost_ret (results_cell0 rfl _ _ _ _ rfl (load28 (H.get 0 rfl))) rfl ?_
    refine ⟨_, rfl, ?_, H.below⟩
    rw [e.out]
    exact T.out.kept (fun b' hP hb' => H.below.block b' hb')

/-- The closures of a parser whose boxes lie from n on. -/
def brF (n : Nat) : Value := .func (.func 27) #[] #[.pointer (some ⟨n + 2, 0, none⟩), .pointer (some ⟨n + 3, 0, none⟩), .pointer (some ⟨n, 0, none⟩), .pointer (some ⟨n + 1, 0, none⟩), .pointer (some ⟨n + 4, 0, none⟩)]
def atF (n : Nat) : Value := .func (.func 30) #[] #[.pointer (some ⟨n, 0, none⟩), .pointer (some ⟨n + 1, 0, none⟩), .pointer (some ⟨n + 5, 0, none⟩), .pointer (some ⟨n + 3, 0, none⟩)]
def piF (n : Nat) : Value := .func (.func 32) #[] #[.pointer (some ⟨n + 6, 0, none⟩), .pointer (some ⟨n + 3, 0, none⟩), .pointer (some ⟨n, 0, none⟩), .pointer (some ⟨n + 1, 0, none⟩)]
def seF (n : Nat) : Value := .func (.func 34) #[] #[.pointer (some ⟨n + 3, 0, none⟩), .pointer (some ⟨n + 1, 0, none⟩), .pointer (some ⟨n, 0, none⟩), .pointer (some ⟨n + 7, 0, none⟩)]
def alF (n : Nat) : Value := .func (.func 36) #[] #[.pointer (some ⟨n + 8, 0, none⟩), .pointer (some ⟨n + 3, 0, none⟩), .pointer (some ⟨n, 0, none⟩), .pointer (some ⟨n + 1, 0, none⟩)]
/-- The boxes of a parser: its place, how many brackets are open, whether it is right; its text, its closures. -/
def env (n : Nat) (s : ByteArray) (a : Nat) (o : Int) (r : Bool) : List Ent :=
  [(true, n + 1, 3, #[.int .i64 (a : Int)]), (true, n + 2, 3, #[.int .i64 o]), (true, n + 3, 4, #[.bool r]), (false, n, 9, #[.string s]),
   (false, n + 4, 59, #[alF n]), (false, n + 5, 59, #[brF n]), (false, n + 6, 59, #[atF n]), (false, n + 7, 59, #[piF n]), (false, n + 8, 59, #[seF n])]
def Ev (w : World) (n : Nat) (s : ByteArray) (a : Nat) (o : Int) (r : Bool) : Prop := ∀ x ∈ env n s a o r, w.heap[x.2.1]? = some (.cells x.2.2.2 x.2.2.1 (0, 0))
def S3 (n : Nat) : Nat → Prop := fun k => k = n + 1 ∨ k = n + 2 ∨ k = n + 3
theorem env_nd (n : Nat) (s : ByteArray) (a : Nat) (o : Int) (r : Bool) : ((env n s a o r).map (·.2.1)).Nodup := by
  simp [env, List.nodup_cons]
  try omega
theorem Ev.st {w : World} {n : Nat} {s : ByteArray} {a : Nat} {o : Int} {r : Bool} (h : Ev w n s a o r) : St (S3 n) w w (env n s a o r) :=
  ⟨But.refl _ _, h, fun x hx hr _ => by
    simp only [env, List.mem_cons, List.not_mem_nil, or_false] at hx
    rcases hx with rfl | rfl | rfl | rfl | rfl | rfl | rfl | rfl | rfl <;> simp [S3] at hr ⊢, env_nd n s a o r⟩
theorem Ev.lt {w : World} {n : Nat} {s : ByteArray} {a : Nat} {o : Int} {r : Bool} (h : Ev w n s a o r) : n + 8 < w.heap.size := (Array.getElem?_eq_some_iff.1 (h (false, n + 8, 59, #[seF n]) (by simp [env]))).1
/-- Behind a call of a closure: the parser's boxes as they are now, the other boxes as they were. -/
theorem St.closure {S : Nat → Prop} {w0 w w' : World} {n : Nat} {s : ByteArray} {a a' : Nat} {o o' : Int} {r r' : Bool} {M : List Ent} (H : St S w0 w (M ++ env n s a o r)) (hb : But (S3 n) w w') (hS : ∀ i, i < w0.heap.size → S3 n i → S i) (hE : Ev w' n s a' o' r') : St S w0 w' (M ++ env n s a' o' r') := by
  refine H.callS hb hS (by simp [env]) (fun x hx => ?_)
  rcases List.mem_append.1 hx with h | h
  · refine .inl ⟨List.mem_append_left _ h, fun hT => ?_⟩
    have hnd := H.nd
    rw [List.map_append, List.nodup_append] at hnd
    have h1 : x.2.1 ∈ M.map (·.2.1) := List.mem_map.2 ⟨x, h, rfl⟩
    have h2 : x.2.1 ∈ (env n s a o r).map (·.2.1) := by
      rcases hT with e | e | e <;> rw [e] <;> simp [env]
    exact hnd.2.2 _ h1 _ h2 rfl
  · exact .inr (hE x h)
theorem St.ev {S : Nat → Prop} {w0 w : World} {n : Nat} {s : ByteArray} {a : Nat} {o : Int} {r : Bool} {M : List Ent} (H : St S w0 w (M ++ env n s a o r)) : Ev w n s a o r := fun x hx => H.all x (List.mem_append_right _ hx)
/-- What came out agrees with what is in the boxes. -/
def Agree (res : Out) (t : Tr) (a : Nat) (o' : Int) (r : Bool) (o : Int) : Prop := match res with
  | .error p => r = false ∧ a = p
  | .ok (t', d) => r = true ∧ a = d ∧ t = t' ∧ o' = o
/-- How a closure ends. -/
def Post (n : Nat) (s : ByteArray) (o : Int) (w : World) (res : Out) (e : Ending) (w' : World) : Prop :=
  ∃ x t a' o' r', e = .returned x ∧ TrV w' (fun b => w.heap.size ≤ b) x t ∧ Ev w' n s a' o' r' ∧ But (S3 n) w w' ∧ Agree res t a' o' r' o
theorem TrV.leafV (w : World) (P : Nat → Prop) (x : S4) : TrV w P (reV 1 x (.slice none 0 0) 0 0) (leaf x) := ⟨_, [], rfl, ⟨rfl, .inl ⟨rfl, rfl⟩⟩, fun b hb => (by cases hb), rfl⟩
theorem TrV.val {w : World} {P : Nat → Prop} {x : Value} {t : Tr} (h : TrV w P x t) : ∃ a n c, x = reV t.1.k t.1.s (.slice a n c) t.1.mn t.1.mx := by
  obtain ⟨v, zs, e, o, p, k⟩ := h
  obtain ⟨a, c, rfl, _, _⟩ := owns8_val o
  exact ⟨a, _, c, e⟩
theorem tab_st {w0 w : World} {L : List Ent} {n : Nat} (h : Tab w0) (H : St (S3 n) w0 w L) (hn : 1 < n) : Tab w := h.st H (by simp [S3]; omega)
/-- From here on the parser's boxes may be written, and those in Q. -/
theorem St.rebaseE {S : Nat → Prop} {w0 w : World} {n : Nat} {s : ByteArray} {a : Nat} {o : Int} {r : Bool} {M : List Ent} (H : St S w0 w (M ++ env n s a o r)) (Q : Nat → Prop) (hQ : ∀ x ∈ M, Q x.2.1) : St (fun k => S3 n k ∨ Q k) w w (M ++ env n s a o r) :=
  H.rebase _ (fun x hx hr => by
    rcases List.mem_append.1 hx with h | h
    · exact .inr (hQ x h)
    · refine .inl ?_
      simp only [env, List.mem_cons, List.not_mem_nil, or_false] at h
      rcases h with rfl | rfl | rfl | rfl | rfl | rfl | rfl | rfl | rfl <;> simp [S3] at hr ⊢)
/-- What is asked of the closure for brackets. -/
def BrOk (n : Nat) (s : ByteArray) (o : Int) (br : Nat → Out) : Prop := ∀ (w : World) (a : Nat), Ev w n s a o true → Tab w → bt s a = 40 →
  Calls Tryd.prog 27 #[.pointer (some ⟨n + 2, 0, none⟩), .pointer (some ⟨n + 3, 0, none⟩), .pointer (some ⟨n, 0, none⟩), .pointer (some ⟨n + 1, 0, none⟩), .pointer (some ⟨n + 4, 0, none⟩)] w (Post n s o w (br a))
set_option maxHeartbeats 4000000 in
theorem atom_any (n : Nat) (hn : 1 < n) (s : ByteArray) (hs : s.size ≤ 256) (o : Int) (br : Nat → Out) (hbr : BrOk n s o br) (w : World) (hT : Tab w) (a : Nat) (ha : a ≤ s.size) (hE : Ev w n s a o true) :
    Calls Tryd.prog 30 #[.pointer (some ⟨n, 0, none⟩), .pointer (some ⟨n + 1, 0, none⟩), .pointer (some ⟨n + 5, 0, none⟩), .pointer (some ⟨n + 3, 0, none⟩)] w (Post n s o w (atomM br s a)) := by
  have H : St (S3 n) w w (env n s a o true) := hE.st
  unfold atomM
  generalize hc : bt s a = c
  by_cases h40 : c = 40
  · subst h40
    rw [if_pos rfl]
    replace hc := hide hc
    go_enter Tryd.func30, Tryd.ntmps30
    go_wp2_with (first | (with_reducible refine at_alloc 28 ?_; refine wl_alloc28 H ?_; clear H; intro g w' H q1 q2) | (with_reducible refine at_load 9 ?_; first | (refine wl_ld9 4 0 H rfl rfl rfl ?_)) | (with_reducible refine at_load 3 ?_; first | (refine wl_ld3 1 0 H rfl rfl rfl ?_)) | (with_reducible refine at_load 4 ?_; first | (refine wl_ld4 3 0 H rfl rfl rfl ?_)) | (with_reducible refine at_load 59 ?_; first | (refine wl_ld59 6 0 H rfl rfl rfl ?_; simp only [brF, atF, piF, seF, alF])))
    refine (byteAt_i s a _ rfl).mono ?_
    rintro e w1 ⟨rfl, rfl⟩
    rw [hc.out]
    go_wp2_with (first | (with_reducible refine at_load 9 ?_; first | (refine wl_ld9 4 0 H rfl rfl rfl ?_)) | (with_reducible refine at_load 3 ?_; first | (refine wl_ld3 1 0 H rfl rfl rfl ?_)) | (with_reducible refine at_load 4 ?_; first | (refine wl_ld4 3 0 H rfl rfl rfl ?_)) | (with_reducible refine at_load 59 ?_; first | (refine wl_ld59 6 0 H rfl rfl rfl ?_; simp only [brF, atF, piF, seF, alF])))
    have P1 := hbr w1 a (St.ev (M := [_]) H) (tab_st hT H hn) hc.out
    have hg := H.lti 0 rfl
    have hge := q1
    refine P1.mono ?_
    rintro e w2 ⟨x, t, a', o', r', rfl, T, E2, B2, A2⟩
    have W2 := St.closure (M := [_]) H B2 (fun i _ h => h) E2
    have hlt := E2.lt
    have hE8 := (St.ev (M := [_]) H).lt
    have hs1 := H.but.size
    clear H
    have H := St.rebaseE (M := [_]) W2 (fun k => k = g) (fun x hx => by simp only [List.mem_cons, List.not_mem_nil, or_false] at hx; subst hx; rfl)
    obtain ⟨va, vn, vc, hx⟩ := T.val
    subst hx
    go_wp2_with (first | (with_reducible refine at_store 28 ?_; refine wl_store28 0 H rfl rfl rfl rfl ?_; clear H; intro w' H))
    refine bodyPost_ret (results_cell0 rfl _ _ _ _ rfl (load28 (H.get 0 rfl))) rfl ?_
    refine ⟨_, t, a', o', r', rfl, ?_, St.ev (M := [_]) H, W2.but.trans H.but (fun i hi h => by rcases h with h | h; exact h; omega), A2⟩
    exact (T.kept (fun b hP hb => H.but.block b hb (fun h => by rcases h with h | h; simp only [S3] at h; omega; omega))).mono (fun b _ hP => by omega)
  · rw [if_neg h40]
    have n40 : (c == 40) = false := beq_eq_false_iff_ne.2 h40
    replace h40 := hide h40
    replace hc := hide hc
    have PS := hide (fun w hT z hz => set_any s hs a ha w hT (z := z) hz)
    generalize setR s a = r0 at PS ⊢
    obtain ⟨x, d, ok⟩ := r0
    simp only at PS ⊢
    generalize hres : (if ok = true then Except.ok (leaf x, d) else Except.error d : Out) = res
    replace hres := hide hres
    go_enter Tryd.func30, Tryd.ntmps30
    go_wp2_with (first | (with_reducible refine at_alloc 28 ?_; refine wl_alloc28 H ?_; clear H; intro g w' H q1 q2) | (with_reducible refine at_load 9 ?_; first | (refine wl_ld9 4 0 H rfl rfl rfl ?_)) | (with_reducible refine at_load 3 ?_; first | (refine wl_ld3 1 0 H rfl rfl rfl ?_)) | (with_reducible refine at_load 4 ?_; first | (refine wl_ld4 3 0 H rfl rfl rfl ?_)) | (with_reducible refine at_load 59 ?_; first | (refine wl_ld59 6 0 H rfl rfl rfl ?_; simp only [brF, atF, piF, seF, alF])) | (with_reducible refine at_store 3 ?_; first | (refine wl_setKind 0 H rfl rfl rfl ?_; clear H; intro w' H) | (refine wl_st3 1 H rfl rfl rfl ?_; clear H; intro w' H)) | (with_reducible refine at_store 4 ?_; refine wl_st4 3 H rfl rfl rfl ?_; clear H; intro w' H) | (with_reducible refine at_store 25 ?_; refine wl_setSet 0 H rfl rfl rfl ?_; clear H; intro w' H) | (with_reducible refine at_load 28 ?_; refine wl_load28 0 H rfl rfl ?_) | (with_reducible refine at_store 28 ?_; refine wl_store28 0 H rfl rfl rfl rfl ?_; clear H; intro w' H))
    refine (byteAt_i s a _ rfl).mono ?_
    rintro e w1 ⟨rfl, rfl⟩
    rw [hc.out]
    go_wp2_with (first | (with_reducible refine at_alloc 28 ?_; refine wl_alloc28 H ?_; clear H; intro g w' H q1 q2) | (with_reducible refine at_load 9 ?_; first | (refine wl_ld9 4 0 H rfl rfl rfl ?_)) | (with_reducible refine at_load 3 ?_; first | (refine wl_ld3 1 0 H rfl rfl rfl ?_)) | (with_reducible refine at_load 4 ?_; first | (refine wl_ld4 3 0 H rfl rfl rfl ?_)) | (with_reducible refine at_load 59 ?_; first | (refine wl_ld59 6 0 H rfl rfl rfl ?_; simp only [brF, atF, piF, seF, alF])) | (with_reducible refine at_store 3 ?_; first | (refine wl_setKind 0 H rfl rfl rfl ?_; clear H; intro w' H) | (refine wl_st3 1 H rfl rfl rfl ?_; clear H; intro w' H)) | (with_reducible refine at_store 4 ?_; refine wl_st4 3 H rfl rfl rfl ?_; clear H; intro w' H) | (with_reducible refine at_store 25 ?_; refine wl_setSet 0 H rfl rfl rfl ?_; clear H; intro w' H) | (with_reducible refine at_load 28 ?_; refine wl_load28 0 H rfl rfl ?_) | (with_reducible refine at_store 28 ?_; refine wl_store28 0 H rfl rfl rfl rfl ?_; clear H; intro w' H))
    refine (PS.out _ (tab_st hT H hn) _ rfl).mono ?_
    rintro e w2 ⟨rfl, b2⟩
    replace H := H.call b2 (Nat.le_refl _)
    go_wp2_with (first | (with_reducible refine at_alloc 28 ?_; refine wl_alloc28 H ?_; clear H; intro g w' H q1 q2) | (with_reducible refine at_load 9 ?_; first | (refine wl_ld9 4 0 H rfl rfl rfl ?_)) | (with_reducible refine at_load 3 ?_; first | (refine wl_ld3 1 0 H rfl rfl rfl ?_)) | (with_reducible refine at_load 4 ?_; first | (refine wl_ld4 3 0 H rfl rfl rfl ?_)) | (with_reducible refine at_load 59 ?_; first | (refine wl_ld59 6 0 H rfl rfl rfl ?_; simp only [brF, atF, piF, seF, alF])) | (with_reducible refine at_store 3 ?_; first | (refine wl_setKind 0 H rfl rfl rfl ?_; clear H; intro w' H) | (refine wl_st3 1 H rfl rfl rfl ?_; clear H; intro w' H)) | (with_reducible refine at_store 4 ?_; refine wl_st4 3 H rfl rfl rfl ?_; clear H; intro w' H) | (with_reducible refine at_store 25 ?_; refine wl_setSet 0 H rfl rfl rfl ?_; clear H; intro w' H) | (with_reducible refine at_load 28 ?_; refine wl_load28 0 H rfl rfl ?_) | (with_reducible refine at_store 28 ?_; refine wl_store28 0 H rfl rfl rfl rfl ?_; clear H; intro w' H))
    refine bodyPost_ret (results_cell0 rfl _ _ _ _ rfl (load28 (H.get 0 rfl))) rfl ?_
    refine ⟨_, leaf x, d, o, ok, rfl, TrV.leafV _ _ x, St.ev (M := [_]) H, H.but, ?_⟩
    rw [← hres.out]
    cases ok with
    | true => exact ⟨rfl, rfl, rfl, rfl⟩
    | false => exact ⟨rfl, rfl⟩
end Go.Proofs.YtnbhpojcckhlmaaDoor
