/-
  What an act does to a disk ('Tu'), how far it goes ('Ok'), and what of a file that is sure stays ('Kpt').
-/
import Derived.Test.YtgbijkdfhkkieaaRT
import Derived.Test.YtgbijkdfhkkieaaEA
namespace Go.Proofs.Ytgbijkdfhkkieaa
open Go.RowKit Go.Maps Go.Lib Go.Shelf
set_option linter.unusedVariables false
set_option linter.unusedSimpArgs false
/-- What an act on a disk can come to, by the names s and t. -/
inductive Tu (s t : ByteArray) (m : M) : M → Prop
  | same : Tu s t m m
  | pow : Tu s t m (pw m)
  | crt (g : Nat) (hn : m.files.atKey (key s) .nil = .nil) (hg : g ∉ m.ids) : Tu s t m (crt m s g)
  | put (g : Nat) (l : List Int) (u : Int) (hf : Fnd m s g) (hg : g ∈ m.ids) (hl : l.length ≤ 4194304) (hl2 : l.length ≤ (m.ct g).1.length + 1500) (hu : m.used - 16384 ≤ u ∧ u ≤ m.used + 16384) (hu2 : u ≤ m.used + 6) : Tu s t m (dn { pw m with ct := upd (pw m).ct g (l, ((pw m).ct g).2), used := u })
  | syn (g : Nat) (hf : Fnd m s g) (hg : g ∈ m.ids) : Tu s t m (syn m g)
  | ren : Tu s t m (dn (pw m))
  | ren2 (g : Nat) (u : Int) (D : DataW Nat) (hf : m.files.atKey (key s) .nil = .held g) (hg : g ∈ m.ids) (hst : s ≠ t) (hD : Drp (pw m) t u D) : Tu s t m (dn { pw m with used := u, files := (D.del (key s)).put (key t) (.held g), n := (pw m).n + 1 })
  | rmv (g : Nat) (hf : Fnd m s g) (hg : g ∈ m.ids) : Tu s t m (rmv m s g)
  | sdr : Tu s t m (sdr m)
  | fus (n : Int) (hn : n ≤ 9223372036854775807) : Tu s t m { m with left := n }
  | rom (n : Int) : Tu s t m { m with room := n }
  | crs (ps : List Int) : Tu s t m (mcr m ps)
/-- Numbers of a disk behind k acts. -/
structure Ok (m : M) (k : Nat) : Prop where
  l : m.left ≤ 9223372036854775807
  s : 0 ≤ m.steps ∧ m.steps ≤ k
  u : -(16384 * (k : Int)) ≤ m.used ∧ m.used ≤ 16384 * (k : Int)
  n : m.n ≤ k
  c : ∀ g ∈ m.ids, (m.ct g).1.length ≤ 4194304 ∧ (m.ct g).2.length ≤ 4194304
  gf : Gd m.files
  gs : Gd m.sure
  c2 : ∀ g ∈ m.ids, (m.ct g).1.length ≤ 1500 * k ∧ (m.ct g).2.length ≤ 1500 * k
  u2 : m.used ≤ ((7 * k * k + 6 * k : Nat) : Int)
/-- A bound on sectors. -/
theorem sq_next (k : Nat) : 7 * (k + 1) * (k + 1) + 6 * (k + 1) = 7 * k * k + 6 * k + 14 * k + 13 := by
  simp only [Nat.mul_add, Nat.add_mul, Nat.mul_one, Nat.one_mul]
  omega
theorem sq_mono {k j : Nat} (h : k ≤ j) : 7 * k * k + 6 * k ≤ 7 * j * j + 6 * j := by
  have h1 : 7 * k ≤ 7 * j := by omega
  have := Nat.mul_le_mul h1 h
  omega
theorem Ok.sm {m : M} {k : Nat} (h : Ok m k) (hk : k ≤ 100000) : Sm m := by
  have h1 := h.s
  have h2 := h.u
  have h3 := h.n
  exact ⟨h.l, by omega, by omega, by omega, fun g hg => by have := h.c g hg; omega⟩
theorem Ok.mono {m : M} {k j : Nat} (h : Ok m k) (hj : k ≤ j) : Ok m j := by
  have h1 := h.s
  have h2 := h.u
  have h3 := h.n
  have h4 := sq_mono hj
  have h5 := h.u2
  exact ⟨h.l, by omega, by omega, by omega, h.c, h.gf, h.gs, fun g hg => by have := h.c2 g hg; omega, by omega⟩
theorem Ok.pw {m : M} {k : Nat} (h : Ok m k) : Ok (pw m) k := by
  obtain ⟨e1, e2, e3, e4, e5, e6, e7, e8, e9⟩ := pw_same m
  exact ⟨by rw [e6]; exact h.l, by rw [e7]; exact h.s, by rw [e9]; exact h.u, by rw [e5]; exact h.n, by rw [e3, e4]; exact h.c, by rw [e1]; exact h.gf, by rw [e2]; exact h.gs, by rw [e3, e4]; exact h.c2, by rw [e9]; exact h.u2⟩
theorem Ok.m0 (room : Int) : Ok (m0 room) 0 := ⟨by show (-1 : Int) ≤ _; omega, by show (0 : Int) ≤ 0 ∧ (0 : Int) ≤ ((0 : Nat) : Int); omega, by show -(16384 * ((0 : Nat) : Int)) ≤ (0 : Int) ∧ (0 : Int) ≤ 16384 * ((0 : Nat) : Int); omega, Nat.le_refl _, (fun g hg => by cases hg), nil_gd, nil_gd, (fun g hg => by cases hg), by show (0 : Int) ≤ _; omega⟩
theorem Gd.put {D : DataW Nat} (h : Gd D) (hm : IsMap D) (s : ByteArray) (g : Nat) : Gd (D.put (key s) (.held g)) := by
  intro x hx
  by_cases e : (Lit.string x) = key s
  · rw [e]
    exact ⟨g, atKey_put_same hm (isKey _) _ _⟩
  · rw [has_put_other e] at hx
    rw [atKey_put_other e]
    exact h x hx
theorem Gd.del {D : DataW Nat} (h : Gd D) (s : ByteArray) : Gd (D.del (key s)) := by
  intro x hx
  by_cases e : (Lit.string x) = key s
  · rw [e, has_del_same] at hx
    cases hx
  · rw [has_del_other e] at hx
    rw [atKey_del_other e]
    exact h x hx
theorem isMap_del {D : DataW Nat} (h : IsMap D) (k : Lit) : IsMap (D.del k) := by
  obtain ⟨es, rfl⟩ := h
  exact ⟨_, rfl⟩
theorem dn_left (m : M) (h : m.left ≤ 9223372036854775807) : (dn m).left ≤ 9223372036854775807 := by
  unfold dn
  simp only
  split <;> omega
theorem dn_steps {m : M} {k : Nat} (h : 0 ≤ m.steps ∧ m.steps ≤ k) : 0 ≤ (dn m).steps ∧ (dn m).steps ≤ ((k + 1 : Nat) : Int) := by
  unfold dn
  simp only
  omega
theorem gof_in {w : World} {d : Nat} {m : M} {T : Nat → Prop} (h : Disk w d m T) (hG : Gd m.sure) : (∀ s ∈ nms m.sure, gof m.sure s ∈ m.ids) ∧ (nms m.sure).length ≤ m.n := by
  obtain ⟨bf, bs, V, h⟩ := h
  refine ⟨fun s hs => ?_, nms_length h.ms⟩
  obtain ⟨zs, hz⟩ := names_are h.ms hG
  rw [← hz] at hs
  obtain ⟨z, _, rfl⟩ := List.mem_map.1 hs
  obtain ⟨_, g, hg⟩ := z.2
  rw [gof_held hg]
  exact h.vs _ g hg
theorem Ok.next {w : World} {d : Nat} {m m' : M} {T : Nat → Prop} {s t : ByteArray} {k : Nat} (hD : Disk w d m T) (h : Ok m k) (ht : Tu s t m m') : Ok m' (k + 1) := by
  have hs := h.s
  have hu := h.u
  have hn := h.n
  obtain ⟨e1, e2, e3, e4, e5, e6, e7, e8, e9⟩ := pw_same m
  have hp := h.pw
  have imf : IsMap m.files := by
    obtain ⟨bf, bs, V, h⟩ := hD
    exact h.mf.isMap
  have dl := dn_left
  have hq := sq_next k
  have hu2 := h.u2
  have hc2 : ∀ g ∈ m.ids, ((Go.Proofs.Ytgbijkdfhkkieaa.pw m).ct g).1.length ≤ 1500 * (k + 1) ∧ ((Go.Proofs.Ytgbijkdfhkkieaa.pw m).ct g).2.length ≤ 1500 * (k + 1) := fun g hg => by
    have := hp.c2 g (by rw [e3]; exact hg)
    omega
  cases ht with
  | same => exact h.mono (Nat.le_succ _)
  | pow => exact hp.mono (Nat.le_succ _)
  | crt g hno hg =>
    refine ⟨dl _ hp.l, dn_steps hp.s, ?_, ?_, ?_, ?_, hp.gs, ?_, ?_⟩
    rotate_right 2
    · intro x hx
      show (upd _ g ([], []) x).1.length ≤ _ ∧ (upd _ g ([], []) x).2.length ≤ _
      unfold upd
      split
      · simp
      · rename_i hne
        rcases List.mem_cons.1 hx with e | e
        · exact (hne e).elim
        · exact hc2 x (by rw [← e3]; exact e)
    · show (Go.Proofs.Ytgbijkdfhkkieaa.pw m).used ≤ _
      rw [e9]; omega
    · show _ ≤ (Go.Proofs.Ytgbijkdfhkkieaa.pw m).used ∧ (Go.Proofs.Ytgbijkdfhkkieaa.pw m).used ≤ _
      rw [e9]; omega
    · show (Go.Proofs.Ytgbijkdfhkkieaa.pw m).n + 1 ≤ _
      rw [e5]; omega
    · intro x hx
      show (upd _ g ([], []) x).1.length ≤ _ ∧ (upd _ g ([], []) x).2.length ≤ _
      unfold upd
      split
      · simp
      · rename_i hne
        rcases List.mem_cons.1 hx with e | e
        · exact (hne e).elim
        · exact hp.c x e
    · show Gd ((Go.Proofs.Ytgbijkdfhkkieaa.pw m).files.put _ _)
      rw [e1]
      exact h.gf.put imf s g
  | put g l u hf hg hl hl2 hu' hu3 =>
    refine ⟨dl _ hp.l, dn_steps hp.s, ?_, ?_, ?_, hp.gf, hp.gs, ?_, ?_⟩
    rotate_right 2
    · intro x hx
      show (upd _ g _ x).1.length ≤ _ ∧ (upd _ g _ x).2.length ≤ _
      unfold upd
      split
      · have h1 := h.c2 g hg
        exact ⟨by show l.length ≤ _; omega, (hc2 g hg).2⟩
      · exact hc2 x (by rw [← e3]; exact hx)
    · show u ≤ _
      omega
    · show _ ≤ u ∧ u ≤ _
      omega
    · show (Go.Proofs.Ytgbijkdfhkkieaa.pw m).n ≤ _
      rw [e5]; omega
    · intro x hx
      show (upd _ g _ x).1.length ≤ _ ∧ (upd _ g _ x).2.length ≤ _
      unfold upd
      split
      · rename_i e
        exact ⟨hl, (hp.c g (e ▸ hx)).2⟩
      · exact hp.c x hx
  | syn g hf hg =>
    refine ⟨dl _ hp.l, dn_steps hp.s, ?_, ?_, ?_, hp.gf, hp.gs, ?_, ?_⟩
    rotate_right 2
    · intro x hx
      show (upd _ g _ x).1.length ≤ _ ∧ (upd _ g _ x).2.length ≤ _
      unfold upd
      split
      · exact ⟨(hc2 g hg).1, (hc2 g hg).1⟩
      · exact hc2 x (by rw [← e3]; exact hx)
    · show (Go.Proofs.Ytgbijkdfhkkieaa.pw m).used ≤ _
      rw [e9]; omega
    · show _ ≤ (Go.Proofs.Ytgbijkdfhkkieaa.pw m).used ∧ (Go.Proofs.Ytgbijkdfhkkieaa.pw m).used ≤ _
      rw [e9]; omega
    · show (Go.Proofs.Ytgbijkdfhkkieaa.pw m).n ≤ _
      rw [e5]; omega
    · intro x hx
      show (upd _ g _ x).1.length ≤ _ ∧ (upd _ g _ x).2.length ≤ _
      unfold upd
      split
      · rename_i e
        exact ⟨(hp.c g (e ▸ hx)).1, (hp.c g (e ▸ hx)).1⟩
      · exact hp.c x hx
  | ren =>
    refine ⟨dl _ hp.l, dn_steps hp.s, ?_, ?_, hp.c, hp.gf, hp.gs, ?_, ?_⟩
    rotate_right 2
    · intro x hx
      exact hc2 x (by rw [← e3]; exact hx)
    · show (Go.Proofs.Ytgbijkdfhkkieaa.pw m).used ≤ _
      rw [e9]; omega
    · show _ ≤ (Go.Proofs.Ytgbijkdfhkkieaa.pw m).used ∧ (Go.Proofs.Ytgbijkdfhkkieaa.pw m).used ≤ _
      rw [e9]; omega
    · show (Go.Proofs.Ytgbijkdfhkkieaa.pw m).n ≤ _
      rw [e5]; omega
  | ren2 g u D hf hg hst hDr =>
    have hD2 : Gd D ∧ IsMap D ∧ m.used - 16384 ≤ u ∧ u ≤ m.used := by
      rcases hDr with ⟨_, rfl, rfl⟩ | ⟨g', hg', hi, rfl, rfl⟩
      · rw [e1, e9]; exact ⟨h.gf, imf, by omega, by omega⟩
      · rw [e1, e9]
        have := (hp.c g' hi).1
        have hsec : sec ((Go.Proofs.Ytgbijkdfhkkieaa.pw m).ct g').1.length ≤ 16384 := by unfold sec; omega
        exact ⟨h.gf.del t, isMap_del imf _, by omega, by omega⟩
    refine ⟨dl _ hp.l, dn_steps hp.s, ?_, ?_, hp.c, ?_, hp.gs, ?_, ?_⟩
    rotate_right 2
    · intro x hx
      exact hc2 x (by rw [← e3]; exact hx)
    · show u ≤ _
      omega
    · show _ ≤ u ∧ u ≤ _
      omega
    · show (Go.Proofs.Ytgbijkdfhkkieaa.pw m).n + 1 ≤ _
      rw [e5]; omega
    · exact (hD2.1.del s).put (isMap_del hD2.2.1 _) t g
  | rmv g hf hg =>
    refine ⟨dl _ hp.l, dn_steps hp.s, ?_, ?_, hp.c, ?_, hp.gs, ?_, ?_⟩
    rotate_right 2
    · intro x hx
      exact hc2 x (by rw [← e3]; exact hx)
    · show (Go.Proofs.Ytgbijkdfhkkieaa.pw m).used - _ ≤ _
      rw [e9]; omega
    · show _ ≤ (Go.Proofs.Ytgbijkdfhkkieaa.pw m).used - _ ∧ (Go.Proofs.Ytgbijkdfhkkieaa.pw m).used - _ ≤ _
      have := (hp.c g (by rw [e3]; exact hg)).1
      have hsec : sec ((Go.Proofs.Ytgbijkdfhkkieaa.pw m).ct g).1.length ≤ 16384 := by unfold sec; omega
      rw [e9]; omega
    · show (Go.Proofs.Ytgbijkdfhkkieaa.pw m).n ≤ _
      rw [e5]; omega
    · show Gd ((Go.Proofs.Ytgbijkdfhkkieaa.pw m).files.del _)
      rw [e1]
      exact h.gf.del s
  | sdr =>
    refine ⟨dl _ hp.l, dn_steps hp.s, ?_, ?_, hp.c, hp.gf, hp.gf, ?_, ?_⟩
    rotate_right 2
    · intro x hx
      exact hc2 x (by rw [← e3]; exact hx)
    · show (Go.Proofs.Ytgbijkdfhkkieaa.pw m).used ≤ _
      rw [e9]; omega
    · show _ ≤ (Go.Proofs.Ytgbijkdfhkkieaa.pw m).used ∧ (Go.Proofs.Ytgbijkdfhkkieaa.pw m).used ≤ _
      rw [e9]; omega
    · show (Go.Proofs.Ytgbijkdfhkkieaa.pw m).n ≤ _
      rw [e5]; omega
  | fus n hn' => exact ⟨hn', by show 0 ≤ m.steps ∧ m.steps ≤ _; omega, by show _ ≤ m.used ∧ m.used ≤ _; omega, by show m.n ≤ _; omega, h.c, h.gf, h.gs, fun g hg => by have := h.c2 g hg; exact ⟨by show (m.ct g).1.length ≤ _; omega, by show (m.ct g).2.length ≤ _; omega⟩, by show m.used ≤ _; omega⟩
  | rom n => exact ⟨h.l, by show 0 ≤ m.steps ∧ m.steps ≤ _; omega, by show _ ≤ m.used ∧ m.used ≤ _; omega, by show m.n ≤ _; omega, h.c, h.gf, h.gs, fun g hg => by have := h.c2 g hg; exact ⟨by show (m.ct g).1.length ≤ _; omega, by show (m.ct g).2.length ≤ _; omega⟩, by show m.used ≤ _; omega⟩
  | crs ps =>
    obtain ⟨i1, i2⟩ := gof_in hD h.gs
    obtain ⟨j1, j2, j3⟩ := cfo_le (D := m.sure) (K := 4194304) (ids := m.ids) (c0 := ⟨m.ct, ps, 0⟩) h.c (by omega) (nms m.sure) i1
    obtain ⟨q1, q2, q3⟩ := cfo_le (D := m.sure) (K := min (1500 * k) 4194304) (ids := m.ids) (c0 := ⟨m.ct, ps, 0⟩) (fun g hg => by have := h.c g hg; have := h.c2 g hg; exact ⟨by show (m.ct g).1.length ≤ _; omega, by show (m.ct g).2.length ≤ _; omega⟩) (by omega) (nms m.sure) i1
    refine ⟨by show (-1 : Int) ≤ _; omega, by show 0 ≤ m.steps ∧ m.steps ≤ _; omega, ?_, by show m.n ≤ _; omega, j1, h.gs, h.gs, fun g hg => ?_, ?_⟩
    · show _ ≤ (cfo m.sure ⟨m.ct, ps, 0⟩ (nms m.sure)).U ∧ (cfo m.sure ⟨m.ct, ps, 0⟩ (nms m.sure)).U ≤ _
      have e : (sec 4194304 : Nat) = 16384 := rfl
      rw [e] at j3
      have : (((nms m.sure).length : Nat) : Int) * (16384 : Nat) ≤ 16384 * (k : Int) := by omega
      simp only at j2 j3
      omega
    · have := q1 g hg
      exact ⟨Nat.le_trans this.1 (by omega), Nat.le_trans this.2 (by omega)⟩
    · show (cfo m.sure ⟨m.ct, ps, 0⟩ (nms m.sure)).U ≤ _
      have hs1 : sec (min (1500 * k) 4194304) ≤ 6 * k + 1 := by unfold sec; omega
      have h3 : (nms m.sure).length * sec (min (1500 * k) 4194304) ≤ k * (6 * k + 1) := Nat.mul_le_mul (by omega) hs1
      have h4 : k * (6 * k + 1) ≤ 7 * k * k + k := by
        have : k * (6 * k) ≤ 7 * k * k := by rw [Nat.mul_comm]; exact Nat.mul_le_mul (by omega) (Nat.le_refl _)
        rw [Nat.mul_add]
        omega
      have h5 : (((nms m.sure).length * sec (min (1500 * k) 4194304) : Nat) : Int) = ((nms m.sure).length : Int) * ((sec (min (1500 * k) 4194304) : Nat) : Int) := by rw [Int.natCast_mul]
      simp only at q3
      omega
theorem Ok.pt {m m' : M} {s t : ByteArray} {k g p : Nat} {B : List Int} {r : Int} (h : Ok m k) (hB : B.length ≤ 1500) (hf : Fnd m s g) (hg : g ∈ m.ids) (hp : p ≤ ((Go.Proofs.Ytgbijkdfhkkieaa.pw m).ct g).1.length) (hP : Pt (Go.Proofs.Ytgbijkdfhkkieaa.pw m) g p B r m') : Tu s t m m' := by
  obtain ⟨e1, e2, e3, e4, e5, e6, e7, e8, e9⟩ := pw_same m
  rcases hP with ⟨_, rfl, _⟩ | ⟨_, ⟨hl, _⟩, rfl⟩
  · exact .pow
  · have hc := (h.pw.c g (by rw [e3]; exact hg)).1
    have e4' : ((Go.Proofs.Ytgbijkdfhkkieaa.pw m).ct g).1.length = (m.ct g).1.length := by rw [e4]
    refine .put g _ _ hf hg (by rw [wr_length B hp]; exact hl) (by rw [wr_length B hp]; omega) ?_ ?_
    rotate_left
    · unfold pUsed
      rw [e9]
      have h3 : sec (max ((Go.Proofs.Ytgbijkdfhkkieaa.pw m).ct g).1.length (p + B.length)) ≤ sec ((Go.Proofs.Ytgbijkdfhkkieaa.pw m).ct g).1.length + 6 := by unfold sec; omega
      omega
    unfold pUsed
    rw [e9]
    have h1 : sec ((Go.Proofs.Ytgbijkdfhkkieaa.pw m).ct g).1.length ≤ 16384 := by unfold sec; omega
    have h2 : sec (max ((Go.Proofs.Ytgbijkdfhkkieaa.pw m).ct g).1.length (p + B.length)) ≤ 16384 := by unfold sec; omega
    omega
section
variable {m m' : M} {s t : ByteArray} {k : Nat} {r : Int} {T : Nat → Prop}
theorem tu_cr (h : Cr m T s r m') : Tu s t m m' := by
  rcases h with ⟨_, _, rfl⟩ | ⟨_, _, _, rfl⟩ | ⟨_, _, _, _, rfl⟩ | ⟨_, _, hn, _, g, hg, _, rfl⟩
  · exact .same
  · exact .pow
  · exact .pow
  · exact .crt g hn hg
theorem tu_fs {Φ : Nat → Int → M → Prop} (h : Fs m s Φ r m') (hΦ : ∀ g, Fnd m s g → g ∈ m.ids → Φ g r m' → Tu s t m m') : Tu s t m m' := by
  rcases h with ⟨g, hf, hg, hp⟩ | ⟨_, _, rfl | rfl⟩
  · exact hΦ g hf hg hp
  · exact .same
  · exact .pow
theorem Ok.app (h : Ok m k) {B : List Int} (hB : B.length ≤ 1500) (hF : Fs m s (fun g => Pt (Go.Proofs.Ytgbijkdfhkkieaa.pw m) g ((Go.Proofs.Ytgbijkdfhkkieaa.pw m).ct g).1.length B) r m') : Tu s t m m' :=
  tu_fs hF (fun g hf hg hp => h.pt hB hf hg (Nat.le_refl _) hp)
theorem Ok.wrt (h : Ok m k) {B : List Int} (hB : B.length ≤ 1500) {n : Int} (hF : Fs m s (fun g r m' => (¬ (0 ≤ n ∧ n ≤ (((Go.Proofs.Ytgbijkdfhkkieaa.pw m).ct g).1.length : Int)) ∧ r = 2 ∧ m' = Go.Proofs.Ytgbijkdfhkkieaa.pw m) ∨ ∃ p : Nat, n = (p : Int) ∧ p ≤ ((Go.Proofs.Ytgbijkdfhkkieaa.pw m).ct g).1.length ∧ Pt (Go.Proofs.Ytgbijkdfhkkieaa.pw m) g p B r m') r m') : Tu s t m m' :=
  tu_fs hF (fun g hf hg hp => by
    rcases hp with ⟨_, _, rfl⟩ | ⟨p, _, hp, hP⟩
    · exact .pow
    · exact h.pt hB hf hg hp hP)
theorem Ok.cut (h : Ok m k) {n : Int} (hF : Fs m s (fun g r m' => (¬ (0 ≤ n ∧ n ≤ (((Go.Proofs.Ytgbijkdfhkkieaa.pw m).ct g).1.length : Int)) ∧ r = 2 ∧ m' = Go.Proofs.Ytgbijkdfhkkieaa.pw m) ∨ ∃ p : Nat, n = (p : Int) ∧ p ≤ ((Go.Proofs.Ytgbijkdfhkkieaa.pw m).ct g).1.length ∧ r = 0 ∧ m' = cutm m g p) r m') : Tu s t m m' :=
  tu_fs hF (fun g hf hg hp => by
    rcases hp with ⟨_, _, rfl⟩ | ⟨p, _, hp, _, rfl⟩
    · exact .pow
    · obtain ⟨e1, e2, e3, e4, e5, e6, e7, e8, e9⟩ := pw_same m
      have hc := (h.pw.c g (by rw [e3]; exact hg)).1
      have := Tu.put (s := s) (t := t) (m := m) g (((Go.Proofs.Ytgbijkdfhkkieaa.pw m).ct g).1.take p) ((Go.Proofs.Ytgbijkdfhkkieaa.pw m).used - ((sec ((Go.Proofs.Ytgbijkdfhkkieaa.pw m).ct g).1.length : Int) - (sec p : Int))) hf hg (by rw [List.length_take]; omega) (by rw [List.length_take, e4]; omega) (by
        have h1 : sec ((Go.Proofs.Ytgbijkdfhkkieaa.pw m).ct g).1.length ≤ 16384 := by unfold sec; omega
        have h2 : sec p ≤ 16384 := by unfold sec; omega
        rw [e9]; omega) (by
        have h2 : sec p ≤ sec ((Go.Proofs.Ytgbijkdfhkkieaa.pw m).ct g).1.length := by unfold sec; omega
        rw [e9]; omega)
      exact this)
theorem tu_syn (hF : Fs m s (fun g r m' => r = 0 ∧ m' = syn m g) r m') : Tu s t m m' := tu_fs hF (fun g hf hg hp => by obtain ⟨_, rfl⟩ := hp; exact .syn g hf hg)
theorem tu_rmv (hF : Fs m s (fun g r m' => r = 0 ∧ m' = rmv m s g) r m') : Tu s t m m' := tu_fs hF (fun g hf hg hp => by obtain ⟨_, rfl⟩ := hp; exact .rmv g hf hg)
theorem tu_sdr (h : ((Go.Proofs.Ytgbijkdfhkkieaa.pw m).gone = true ∧ r = 8 ∧ m' = Go.Proofs.Ytgbijkdfhkkieaa.pw m) ∨ ((Go.Proofs.Ytgbijkdfhkkieaa.pw m).gone = false ∧ r = 0 ∧ m' = sdr m)) : Tu s t m m' := by
  rcases h with ⟨_, _, rfl⟩ | ⟨_, _, rfl⟩
  · exact .pow
  · exact .sdr
theorem tu_rn (h : Rn m s t r m') : Tu s t m m' := by
  rcases h with ⟨g, _, _, _, hf, hg, _, ⟨_, rfl⟩ | ⟨hst, u, D, hD, rfl⟩⟩ | ⟨_, rfl | rfl⟩
  · exact .ren
  · exact .ren2 g u D hf hg hst hD
  · exact .same
  · exact .pow
end
end Go.Proofs.Ytgbijkdfhkkieaa
