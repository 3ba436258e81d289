/-
  Mathematics: rising lists; two of them, merged; what is kept of them.
-/
namespace Go.Proofs.Ythkfbdcocnhebaa
set_option linter.unusedVariables false

/-- A list whose numbers rise. -/
def Up (l : List Int) : Prop := l.Pairwise (· < ·)
def upB : List Int → Bool
  | a :: b :: l => decide (a < b) && upB (b :: l)
  | _ => true
theorem upB_iff : ∀ l : List Int, upB l = true ↔ ∀ i, i + 1 < l.length → l.getD i 0 < l.getD (i + 1) 0
  | [] => by simp [upB]
  | [a] => by simp [upB]
  | a :: b :: l => by
    rw [upB, Bool.and_eq_true, decide_eq_true_iff, upB_iff (b :: l)]
    constructor
    · rintro ⟨h1, h2⟩ i hi
      cases i with
      | zero => simpa using h1
      | succ i => have := h2 i (by simp at hi ⊢; omega); simpa using this
    · intro h
      refine ⟨by simpa using h 0 (by simp), fun i hi => ?_⟩
      have := h (i + 1) (by simp at hi ⊢; omega)
      simpa using this
theorem up_of_upB : ∀ {l : List Int}, upB l = true → Up l
  | [], _ => List.Pairwise.nil
  | [a], _ => by simp [Up]
  | a :: b :: l, h => by
    rw [upB, Bool.and_eq_true, decide_eq_true_iff] at h
    have ih : Up (b :: l) := up_of_upB h.2
    refine List.Pairwise.cons (fun x hx => ?_) ih
    rcases List.mem_cons.1 hx with rfl | hx
    · exact h.1
    · have := (List.pairwise_cons.1 ih).1 x hx; omega
theorem upB_of_up : ∀ {l : List Int}, Up l → upB l = true
  | [], _ => rfl
  | [a], _ => rfl
  | a :: b :: l, h => by
    have h' := List.pairwise_cons.1 h
    rw [upB, Bool.and_eq_true, decide_eq_true_iff]
    exact ⟨h'.1 b (by simp), upB_of_up h'.2⟩
theorem up_iff {l : List Int} : upB l = true ↔ Up l := ⟨up_of_upB, upB_of_up⟩
theorem upB_false {l : List Int} {i : Nat} (hi : i + 1 < l.length) (h : l.getD (i + 1) 0 ≤ l.getD i 0) : upB l = false := by
  cases hb : upB l with
  | false => rfl
  | true => have := (upB_iff l).1 hb i hi; omega
/-- Rising lists that have the same numbers are the same. -/
theorem up_ext : ∀ {l m : List Int}, Up l → Up m → (∀ x, x ∈ l ↔ x ∈ m) → l = m
  | [], [], _, _, _ => rfl
  | [], b :: m, _, _, h => by have := (h b).2 (by simp); simp at this
  | a :: l, [], _, _, h => by have := (h a).1 (by simp); simp at this
  | a :: l, b :: m, h1, h2, h => by
    have k1 := List.pairwise_cons.1 h1
    have k2 := List.pairwise_cons.1 h2
    have hab : a = b := by
      have p := (h a).1 (by simp)
      have q := (h b).2 (by simp)
      rcases List.mem_cons.1 p with rfl | p
      · rfl
      · rcases List.mem_cons.1 q with rfl | q
        · rfl
        · have := k1.1 b q; have := k2.1 a p; omega
    subst hab
    have : l = m := up_ext k1.2 k2.2 (fun x => by
      constructor
      · intro hx
        have := (h x).1 (by simp [hx])
        rcases List.mem_cons.1 this with rfl | e
        · have := k1.1 x hx; omega
        · exact e
      · intro hx
        have := (h x).2 (by simp [hx])
        rcases List.mem_cons.1 this with rfl | e
        · have := k2.1 x hx; omega
        · exact e)
    rw [this]
theorem up_nil : Up [] := List.Pairwise.nil
theorem up_take {l : List Int} (h : Up l) (k : Nat) : Up (l.take k) := h.sublist (List.take_sublist _ _)
theorem up_filter {l : List Int} (h : Up l) (p : Int → Bool) : Up (l.filter p) := h.sublist List.filter_sublist

/-- Two rising lists, merged: each number with where it is (1: in the first alone, 2: in the second alone, 4: in both). -/
def mg : List Int → List Int → List (Int × Int)
  | [], [] => []
  | [], y :: b => (y, 2) :: mg [] b
  | x :: a, [] => (x, 1) :: mg a []
  | x :: a, y :: b => if x < y then (x, 1) :: mg a (y :: b) else if y < x then (y, 2) :: mg (x :: a) b else (x, 4) :: mg a b
termination_by a b => a.length + b.length
theorem mg_nil : mg [] [] = [] := by rw [mg]
theorem mg_r (y : Int) (b : List Int) : mg [] (y :: b) = (y, 2) :: mg [] b := by rw [mg]
theorem mg_l (x : Int) (a : List Int) : mg (x :: a) [] = (x, 1) :: mg a [] := by rw [mg]
theorem mg_lt {x y : Int} (a b : List Int) (h : x < y) : mg (x :: a) (y :: b) = (x, 1) :: mg a (y :: b) := by rw [mg, if_pos h]
theorem mg_gt {x y : Int} (a b : List Int) (h : y < x) : mg (x :: a) (y :: b) = (y, 2) :: mg (x :: a) b := by rw [mg, if_neg (by omega), if_pos h]
theorem mg_eq (x : Int) (a b : List Int) : mg (x :: a) (x :: b) = (x, 4) :: mg a b := by rw [mg, if_neg (by omega), if_neg (by omega)]
theorem mg_len : ∀ a b : List Int, (mg a b).length ≤ a.length + b.length := by
  intro a b
  induction a, b using mg.induct with
  | case1 => simp [mg_nil]
  | case2 y b ih => rw [mg_r]; simp at ih ⊢; omega
  | case3 x a ih => rw [mg_l]; simp at ih ⊢; omega
  | case4 x a y b h ih => rw [mg_lt _ _ h]; simp at ih ⊢; omega
  | case5 x a y b h1 h ih => rw [mg_gt _ _ h]; simp at ih ⊢; omega
  | case6 x a y b h1 h2 ih => obtain rfl : x = y := by omega
                              rw [mg_eq]; simp at ih ⊢; omega
/-- What stands at a place. -/
def At (a b : List Int) (p : Int × Int) : Prop := (p.2 = 1 ∧ p.1 ∈ a ∧ p.1 ∉ b) ∨ (p.2 = 2 ∧ p.1 ∉ a ∧ p.1 ∈ b) ∨ (p.2 = 4 ∧ p.1 ∈ a ∧ p.1 ∈ b)
theorem up_notMem {x : Int} {a : List Int} (h : ∀ z ∈ a, x < z) : x ∉ a := fun e => by have := h x e; omega
theorem mg_all : ∀ a b : List Int, Up a → Up b → ((∀ p ∈ mg a b, At a b p) ∧ (∀ x, x ∈ a ∨ x ∈ b → ∃ p ∈ mg a b, p.1 = x) ∧ (mg a b).Pairwise (fun p q => p.1 < q.1)) := by
  intro a b
  induction a, b using mg.induct with
  | case1 => intro _ _; simp [mg_nil]
  | case2 y b ih =>
    intro ha hb
    have kb := List.pairwise_cons.1 hb
    obtain ⟨h1, h2, h3⟩ := ih ha kb.2
    rw [mg_r]
    refine ⟨fun p hp => ?_, fun x hx => ?_, List.pairwise_cons.2 ⟨fun p hp => ?_, h3⟩⟩
    · rcases List.mem_cons.1 hp with rfl | hp
      · exact .inr (.inl ⟨rfl, by simp, by simp⟩)
      · rcases h1 p hp with ⟨_, e, _⟩ | ⟨e1, _, e2⟩ | ⟨_, e, _⟩
        · simp at e
        · exact .inr (.inl ⟨e1, by simp, by simp [e2]⟩)
        · simp at e
    · rcases hx with hx | hx
      · simp at hx
      · rcases List.mem_cons.1 hx with rfl | hx
        · exact ⟨_, List.mem_cons_self, rfl⟩
        · obtain ⟨p, e1, e2⟩ := h2 x (.inr hx); exact ⟨p, by simp [e1], e2⟩
    · rcases h1 p hp with ⟨_, e, _⟩ | ⟨e1, _, e2⟩ | ⟨_, e, _⟩
      · simp at e
      · exact kb.1 _ e2
      · simp at e
  | case3 x a ih =>
    intro ha hb
    have ka := List.pairwise_cons.1 ha
    obtain ⟨h1, h2, h3⟩ := ih ka.2 hb
    rw [mg_l]
    refine ⟨fun p hp => ?_, fun z hz => ?_, List.pairwise_cons.2 ⟨fun p hp => ?_, h3⟩⟩
    · rcases List.mem_cons.1 hp with rfl | hp
      · exact .inl ⟨rfl, by simp, by simp⟩
      · rcases h1 p hp with ⟨e1, e2, _⟩ | ⟨_, _, e⟩ | ⟨_, _, e⟩
        · exact .inl ⟨e1, by simp [e2], by simp⟩
        · simp at e
        · simp at e
    · rcases hz with hz | hz
      · rcases List.mem_cons.1 hz with rfl | hz
        · exact ⟨_, List.mem_cons_self, rfl⟩
        · obtain ⟨p, e1, e2⟩ := h2 z (.inl hz); exact ⟨p, by simp [e1], e2⟩
      · simp at hz
    · rcases h1 p hp with ⟨e1, e2, _⟩ | ⟨_, _, e⟩ | ⟨_, _, e⟩
      · exact ka.1 _ e2
      · simp at e
      · simp at e
  | case4 x a y b h ih =>
    intro ha hb
    have ka := List.pairwise_cons.1 ha
    have kb := List.pairwise_cons.1 hb
    obtain ⟨h1, h2, h3⟩ := ih ka.2 hb
    have hyb : ∀ z ∈ y :: b, x < z := fun z hz => by
      rcases List.mem_cons.1 hz with rfl | hz
      · exact h
      · have := kb.1 z hz; omega
    have hp1 : ∀ p ∈ mg a (y :: b), x < p.1 := fun p hp => by
      rcases h1 p hp with ⟨_, e, _⟩ | ⟨_, _, e⟩ | ⟨_, e, _⟩
      · exact ka.1 _ e
      · exact hyb _ e
      · exact ka.1 _ e
    rw [mg_lt _ _ h]
    refine ⟨fun p hp => ?_, fun z hz => ?_, List.pairwise_cons.2 ⟨fun p hp => hp1 p hp, h3⟩⟩
    · rcases List.mem_cons.1 hp with rfl | hp
      · exact .inl ⟨rfl, by simp, up_notMem hyb⟩
      · have hx := hp1 p hp
        rcases h1 p hp with ⟨e1, e2, e3⟩ | ⟨e1, e2, e3⟩ | ⟨e1, e2, e3⟩
        · exact .inl ⟨e1, by simp [e2], e3⟩
        · exact .inr (.inl ⟨e1, by simp [e2]; omega, e3⟩)
        · exact .inr (.inr ⟨e1, by simp [e2], e3⟩)
    · rcases hz with hz | hz
      · rcases List.mem_cons.1 hz with rfl | hz
        · exact ⟨_, List.mem_cons_self, rfl⟩
        · obtain ⟨p, e1, e2⟩ := h2 z (.inl hz); exact ⟨p, by simp [e1], e2⟩
      · obtain ⟨p, e1, e2⟩ := h2 z (.inr hz); exact ⟨p, by simp [e1], e2⟩
  | case5 x a y b h0 h ih =>
    intro ha hb
    have ka := List.pairwise_cons.1 ha
    have kb := List.pairwise_cons.1 hb
    obtain ⟨h1, h2, h3⟩ := ih ha kb.2
    have hxa : ∀ z ∈ x :: a, y < z := fun z hz => by
      rcases List.mem_cons.1 hz with rfl | hz
      · exact h
      · have := ka.1 z hz; omega
    have hp1 : ∀ p ∈ mg (x :: a) b, y < p.1 := fun p hp => by
      rcases h1 p hp with ⟨_, e, _⟩ | ⟨_, _, e⟩ | ⟨_, _, e⟩
      · exact hxa _ e
      · exact kb.1 _ e
      · exact kb.1 _ e
    rw [mg_gt _ _ h]
    refine ⟨fun p hp => ?_, fun z hz => ?_, List.pairwise_cons.2 ⟨fun p hp => hp1 p hp, h3⟩⟩
    · rcases List.mem_cons.1 hp with rfl | hp
      · exact .inr (.inl ⟨rfl, up_notMem hxa, by simp⟩)
      · have hx := hp1 p hp
        rcases h1 p hp with ⟨e1, e2, e3⟩ | ⟨e1, e2, e3⟩ | ⟨e1, e2, e3⟩
        · exact .inl ⟨e1, e2, by simp [e3]; omega⟩
        · exact .inr (.inl ⟨e1, e2, by simp [e3]⟩)
        · exact .inr (.inr ⟨e1, e2, by simp [e3]⟩)
    · rcases hz with hz | hz
      · obtain ⟨p, e1, e2⟩ := h2 z (.inl hz); exact ⟨p, by simp [e1], e2⟩
      · rcases List.mem_cons.1 hz with rfl | hz
        · exact ⟨_, List.mem_cons_self, rfl⟩
        · obtain ⟨p, e1, e2⟩ := h2 z (.inr hz); exact ⟨p, by simp [e1], e2⟩
  | case6 x a y b h0 h00 ih =>
    intro ha hb
    obtain rfl : x = y := by omega
    have ka := List.pairwise_cons.1 ha
    have kb := List.pairwise_cons.1 hb
    obtain ⟨h1, h2, h3⟩ := ih ka.2 kb.2
    have hp1 : ∀ p ∈ mg a b, x < p.1 := fun p hp => by
      rcases h1 p hp with ⟨_, e, _⟩ | ⟨_, _, e⟩ | ⟨_, e, _⟩
      · exact ka.1 _ e
      · exact kb.1 _ e
      · exact ka.1 _ e
    rw [mg_eq]
    refine ⟨fun p hp => ?_, fun z hz => ?_, List.pairwise_cons.2 ⟨fun p hp => hp1 p hp, h3⟩⟩
    · rcases List.mem_cons.1 hp with rfl | hp
      · exact .inr (.inr ⟨rfl, by simp, by simp⟩)
      · have hx := hp1 p hp
        rcases h1 p hp with ⟨e1, e2, e3⟩ | ⟨e1, e2, e3⟩ | ⟨e1, e2, e3⟩
        · exact .inl ⟨e1, by simp [e2], by simp [e3]; omega⟩
        · exact .inr (.inl ⟨e1, by simp [e2]; omega, by simp [e3]⟩)
        · exact .inr (.inr ⟨e1, by simp [e2], by simp [e3]⟩)
    · have hz' : z = x ∨ z ∈ a ∨ z ∈ b := by
        rcases hz with hz | hz <;> rcases List.mem_cons.1 hz with rfl | hz <;> simp_all
      rcases hz' with rfl | hz
      · exact ⟨_, List.mem_cons_self, rfl⟩
      · obtain ⟨p, e1, e2⟩ := h2 z hz; exact ⟨p, by simp [e1], e2⟩
/-- Is a place wanted? -/
def wantB (k p : Int) : Bool := (k == 7) || (k == p)
/-- The numbers of pairs at the wanted places. -/
def kpL (k : Int) (ps : List (Int × Int)) : List Int := (ps.filter (fun p => wantB k p.2)).map Prod.fst
def kp (k : Int) (a b : List Int) : List Int := kpL k (mg a b)
theorem kpL_snoc (k : Int) (ps : List (Int × Int)) (p : Int × Int) : kpL k (ps ++ [p]) = kpL k ps ++ (if wantB k p.2 then [p.1] else []) := by
  unfold kpL
  rw [List.filter_append, List.map_append]
  congr 1
  by_cases h : wantB k p.2 = true <;> simp [h]
theorem kpL_len (k : Int) (ps : List (Int × Int)) : (kpL k ps).length ≤ ps.length := by
  unfold kpL; rw [List.length_map]; exact List.length_filter_le _ _
theorem kp_len (k : Int) (a b : List Int) : (kp k a b).length ≤ a.length + b.length := Nat.le_trans (kpL_len _ _) (mg_len a b)
theorem kp_up (k : Int) {a b : List Int} (ha : Up a) (hb : Up b) : Up (kp k a b) := by
  have h := (mg_all a b ha hb).2.2
  unfold kp kpL Up
  rw [List.pairwise_map]
  exact h.sublist List.filter_sublist
theorem mem_kp {k : Int} {a b : List Int} {x : Int} : x ∈ kp k a b ↔ ∃ p ∈ mg a b, wantB k p.2 = true ∧ p.1 = x := by
  unfold kp kpL
  simp only [List.mem_map, List.mem_filter]
  constructor
  · rintro ⟨p, ⟨h1, h2⟩, h3⟩; exact ⟨p, h1, h2, h3⟩
  · rintro ⟨p, h1, h2, h3⟩; exact ⟨p, ⟨h1, h2⟩, h3⟩
theorem mem_kp1 {a b : List Int} (ha : Up a) (hb : Up b) (x : Int) : x ∈ kp 1 a b ↔ x ∈ a ∧ x ∉ b := by
  obtain ⟨h1, h2, _⟩ := mg_all a b ha hb
  rw [mem_kp]
  constructor
  · rintro ⟨p, e1, e2, rfl⟩
    rcases h1 p e1 with ⟨q, r⟩ | ⟨q, r⟩ | ⟨q, r⟩
    · exact r
    · rw [q] at e2; cases e2
    · rw [q] at e2; cases e2
  · rintro ⟨e1, e2⟩
    obtain ⟨p, q, rfl⟩ := h2 x (.inl e1)
    rcases h1 p q with ⟨r, _⟩ | ⟨_, r, _⟩ | ⟨_, _, r⟩
    · exact ⟨p, q, by rw [r]; rfl, rfl⟩
    · exact (r e1).elim
    · exact (e2 r).elim
theorem mem_kp4 {a b : List Int} (ha : Up a) (hb : Up b) (x : Int) : x ∈ kp 4 a b ↔ x ∈ a ∧ x ∈ b := by
  obtain ⟨h1, h2, _⟩ := mg_all a b ha hb
  rw [mem_kp]
  constructor
  · rintro ⟨p, e1, e2, rfl⟩
    rcases h1 p e1 with ⟨q, r⟩ | ⟨q, r⟩ | ⟨q, r⟩
    · rw [q] at e2; cases e2
    · rw [q] at e2; cases e2
    · exact r
  · rintro ⟨e1, e2⟩
    obtain ⟨p, q, rfl⟩ := h2 x (.inl e1)
    rcases h1 p q with ⟨_, _, r⟩ | ⟨_, r, _⟩ | ⟨r, _⟩
    · exact (r e2).elim
    · exact (r e1).elim
    · exact ⟨p, q, by rw [r]; rfl, rfl⟩
theorem mem_kp7 {a b : List Int} (ha : Up a) (hb : Up b) (x : Int) : x ∈ kp 7 a b ↔ x ∈ a ∨ x ∈ b := by
  obtain ⟨h1, h2, _⟩ := mg_all a b ha hb
  rw [mem_kp]
  constructor
  · rintro ⟨p, e1, e2, rfl⟩
    rcases h1 p e1 with ⟨_, r, _⟩ | ⟨_, _, r⟩ | ⟨_, r, _⟩
    · exact .inl r
    · exact .inr r
    · exact .inl r
  · intro e
    obtain ⟨p, q, rfl⟩ := h2 x e
    exact ⟨p, q, by simp [wantB], rfl⟩
/-- The one way to put lists together: what is in all of them (4), or in one of them (7). -/
def Tog (k : Int) (ls : List (List Int)) (x : Int) : Prop := if k = 4 then ls ≠ [] ∧ ∀ l ∈ ls, x ∈ l else ∃ l ∈ ls, x ∈ l
def UpL (ls : List (List Int)) : Prop := ∀ l ∈ ls, Up l
theorem tog_join {k : Int} (hk : k = 4 ∨ k = 7) {l1 l2 : List (List Int)} (h1 : l1 ≠ []) (h2 : l2 ≠ []) {r1 r2 : List Int} (u1 : Up r1) (u2 : Up r2) (m1 : ∀ x, x ∈ r1 ↔ Tog k l1 x) (m2 : ∀ x, x ∈ r2 ↔ Tog k l2 x) (x : Int) : x ∈ kp k r1 r2 ↔ Tog k (l1 ++ l2) x := by
  rcases hk with rfl | rfl
  · rw [mem_kp4 u1 u2, m1, m2]
    simp only [Tog, if_true]
    constructor
    · rintro ⟨⟨_, a⟩, ⟨_, b⟩⟩
      exact ⟨by simp [h1], fun l hl => by rcases List.mem_append.1 hl with h | h; exact a l h; exact b l h⟩
    · rintro ⟨_, a⟩
      exact ⟨⟨h1, fun l hl => a l (by simp [hl])⟩, ⟨h2, fun l hl => a l (by simp [hl])⟩⟩
  · rw [mem_kp7 u1 u2, m1, m2]
    simp only [Tog, show ¬ ((7 : Int) = 4) by decide, if_false]
    constructor
    · rintro (⟨l, a, b⟩ | ⟨l, a, b⟩)
      · exact ⟨l, by simp [a], b⟩
      · exact ⟨l, by simp [a], b⟩
    · rintro ⟨l, a, b⟩
      rcases List.mem_append.1 a with h | h
      · exact .inl ⟨l, h, b⟩
      · exact .inr ⟨l, h, b⟩
theorem tog_nil {k : Int} (x : Int) : ¬ Tog k [] x := by unfold Tog; split <;> simp
theorem tog_one {k : Int} (l : List Int) (x : Int) : x ∈ l ↔ Tog k [l] x := by unfold Tog; split <;> simp
/-- How many numbers lists have. -/
def tot (ls : List (List Int)) : Nat := (ls.map List.length).sum
theorem tot_append (l1 l2 : List (List Int)) : tot (l1 ++ l2) = tot l1 + tot l2 := by simp [tot]
theorem upAll_iff (ls : List (List Int)) : ls.all upB = true ↔ UpL ls := by
  rw [List.all_eq_true]
  exact ⟨fun h l hl => up_iff.1 (h l hl), fun h l hl => up_iff.2 (h l hl)⟩
end Go.Proofs.Ythkfbdcocnhebaa
