/-
  A disk with one file: what its calls come to.
-/
import Derived.Test.YtgbijkdfhkkieaaX
namespace Go.Proofs.Ytgbijkdfhkkieaa
open Go.RowKit Go.Maps Go.Shelf
set_option linter.unusedVariables false
set_option linter.unusedSimpArgs false

/-- A directory of one name. -/
def D1 (nm : ByteArray) (g : Nat) : DataW Nat := .map [(key nm, .held g)]
theorem d1_put (nm : ByteArray) (g : Nat) : (DataW.map [] : DataW Nat).put (key nm) (.held g) = D1 nm g := rfl
theorem d1_at (nm : ByteArray) (g : Nat) : (D1 nm g).atKey (key nm) .nil = .held g := by simp [D1, DataW.atKey, Lit.sameKey]
theorem d1_at' {nm : ByteArray} {g g' : Nat} {s : List UInt8} (h : (D1 nm g).atKey (.string s) .nil = .held g') : g' = g := by
  simp only [D1, DataW.atKey, List.find?] at h
  split at h
  · rename_i p hp
    split at hp
    · cases hp; cases h; rfl
    · cases hp
  · cases h
theorem d1_gd (nm : ByteArray) (g : Nat) : Gd (D1 nm g) := by
  intro s hs
  refine ⟨g, ?_⟩
  simp only [D1, Maps.has, List.any_cons, List.any_nil, Bool.or_false] at hs
  simp only [D1, DataW.atKey, List.find?, hs]
theorem d1_nms (nm : ByteArray) (g : Nat) : nms (D1 nm g) = [nm.data.toList] := by simp [nms, D1, strKeys, strOf]
theorem nil_gd : Gd (.map []) := fun s hs => by cases hs
theorem pw_m0 (R : Int) : pw (m0 R) = m0 R := if_neg (fun h => by cases h)
structure One (m : M) (R : Int) (nm : ByteArray) (g : Nat) (l1 l2 : List Int) (sd : Bool) (k : Nat) : Prop where
  left : m.left = -1
  gone : m.gone = false
  steps : 0 ≤ m.steps ∧ m.steps ≤ k
  files : m.files = D1 nm g
  sure : m.sure = if sd then D1 nm g else .map []
  room : m.room = R
  used : m.used = (sec l1.length : Int)
  ids : m.ids = [g]
  ct : m.ct g = (l1, l2)
  n : m.n ≤ k
  b1 : l1.length ≤ 4000
  b2 : l2.length ≤ 4000
  k1 : k ≤ 1000
section
variable {m m' : M} {R r : Int} {nm : ByteArray} {g k : Nat} {l1 l2 : List Int} {sd : Bool}
theorem One.sm (h : One m R nm g l1 l2 sd k) : Sm m := by
  have h1 := h.steps
  have h2 := h.k1
  have h3 := h.b1
  have h4 := h.b2
  have h5 := h.n
  have h6 : sec l1.length ≤ 4194304 := sec_le (by omega)
  refine ⟨by rw [h.left]; decide, by omega, by rw [h.used]; omega, by omega, fun x hx => ?_⟩
  rw [h.ids] at hx
  obtain rfl : x = g := by simpa using hx
  rw [h.ct]
  exact ⟨by simp only; omega, by simp only; omega⟩
theorem One.pw (h : One m R nm g l1 l2 sd k) : pw m = m := if_neg (by rw [h.left]; decide)
theorem One.gd (h : One m R nm g l1 l2 sd k) : Gd m.sure := by
  rw [h.sure]
  cases sd
  · exact nil_gd
  · exact d1_gd nm g
theorem One.fnd (h : One m R nm g l1 l2 sd k) (hn : nameOk nm = true) : Fnd m nm g := ⟨hn, by rw [h.pw]; exact h.gone, by rw [h.files]; exact d1_at nm g⟩
theorem One.fnd' (h : One m R nm g l1 l2 sd k) {g' : Nat} (hf : Fnd m nm g') : g' = g := by
  have := hf.2.2
  rw [h.files] at this
  exact d1_at' this
theorem One.fs (h : One m R nm g l1 l2 sd k) (hn : nameOk nm = true) {Φ : Nat → Int → M → Prop} (hF : Fs m nm Φ r m') : Φ g r m' := by
  rcases hF with ⟨g', hf, _, hp⟩ | ⟨_, hno, _⟩
  · rw [h.fnd' hf] at hp
    exact hp
  · exact (hno g (h.fnd hn)).elim
theorem One.mk0 (R : Int) (nm : ByteArray) (g : Nat) : One (crt (m0 R) nm g) R nm g [] [] false 1 := by
  have e := pw_m0 R
  unfold crt
  rw [e]
  refine ⟨rfl, rfl, by simp [dn, m0], d1_put nm g, rfl, rfl, rfl, rfl, by simp [dn, m0, upd], by simp [dn, m0], by decide, by decide, by decide⟩
theorem One.cr (hn : nameOk nm = true) {T : Nat → Prop} (hC : Cr (m0 R) T nm r m') : ∃ g, r = 0 ∧ ¬ T g ∧ One m' R nm g [] [] false 1 := by
  have e := pw_m0 R
  rcases hC with ⟨h, _⟩ | ⟨_, h, _⟩ | ⟨_, _, ⟨g, h⟩, _⟩ | ⟨_, _, _, h, g, _, hT, rfl⟩
  · rw [hn] at h; cases h
  · rw [e] at h; cases h
  · cases h
  · exact ⟨g, h, hT, One.mk0 R nm g⟩
theorem One.put (h : One m R nm g l1 l2 sd k) {p : Nat} {B : List Int} (hp : p ≤ l1.length) (hB : Pt (Go.Proofs.Ytgbijkdfhkkieaa.pw m) g p B r m') (hl : (wr l1 p B).length ≤ 4000) (hR : (sec (wr l1 p B).length : Int) ≤ R) (hk : k + 1 ≤ 1000) : r = 0 ∧ One m' R nm g (wr l1 p B) l2 sd (k + 1) := by
  rw [h.pw] at hB
  have e1 : max (m.ct g).1.length (p + B.length) = (wr l1 p B).length := by rw [h.ct, wr_length B hp]
  have e2 : pUsed m g (max (m.ct g).1.length (p + B.length)) = (sec (wr l1 p B).length : Int) := by
    rw [e1, pUsed, h.used, h.ct]
    simp only
    omega
  rcases hB with ⟨_, _, hno⟩ | ⟨h0, _, rfl⟩
  · exact (hno ⟨by rw [e1]; omega, by rw [e2, h.room]; exact hR⟩).elim
  · refine ⟨h0, ?_⟩
    have hs := h.steps
    have hn := h.n
    rw [e2]
    refine ⟨by simp [dn, h.left], h.gone, by simp only [dn]; omega, h.files, h.sure, h.room, rfl, h.ids, by simp [dn, upd, h.ct], by simp only [dn]; omega, hl, h.b2, hk⟩
theorem One.app (h : One m R nm g l1 l2 sd k) (hn : nameOk nm = true) {B : List Int} (hF : Fs m nm (fun g => Pt (Go.Proofs.Ytgbijkdfhkkieaa.pw m) g ((Go.Proofs.Ytgbijkdfhkkieaa.pw m).ct g).1.length B) r m') (hl : l1.length + B.length ≤ 4000) (hR : (sec (l1.length + B.length) : Int) ≤ R) (hk : k + 1 ≤ 1000) : r = 0 ∧ One m' R nm g (l1 ++ B) l2 sd (k + 1) := by
  have hp := h.fs hn hF
  have e : ((Go.Proofs.Ytgbijkdfhkkieaa.pw m).ct g).1.length = l1.length := by rw [h.pw, h.ct]
  simp only [e] at hp
  have e3 : wr l1 l1.length B = l1 ++ B := by simp [wr]
  have e2 : (wr l1 l1.length B).length = l1.length + B.length := by rw [e3]; simp
  have := h.put (Nat.le_refl _) hp (by rw [e2]; exact hl) (by rw [e2]; exact hR) hk
  rwa [e3] at this
theorem One.syn (h : One m R nm g l1 l2 sd k) (hn : nameOk nm = true) (hF : Fs m nm (fun g r m' => r = 0 ∧ m' = syn m g) r m') (hk : k + 1 ≤ 1000) : r = 0 ∧ One m' R nm g l1 l1 sd (k + 1) := by
  obtain ⟨h0, rfl⟩ := h.fs hn hF
  refine ⟨h0, ?_⟩
  have hs := h.steps
  have hn := h.n
  unfold Go.Proofs.Ytgbijkdfhkkieaa.syn
  rw [h.pw]
  exact ⟨by simp [dn, h.left], h.gone, by simp only [dn]; omega, h.files, h.sure, h.room, h.used, h.ids, by simp [dn, upd, h.ct], by simp only [dn]; omega, h.b1, h.b1, hk⟩
theorem One.sdr (h : One m R nm g l1 l2 sd k) (hF : ((Go.Proofs.Ytgbijkdfhkkieaa.pw m).gone = true ∧ r = 8 ∧ m' = Go.Proofs.Ytgbijkdfhkkieaa.pw m) ∨ ((Go.Proofs.Ytgbijkdfhkkieaa.pw m).gone = false ∧ r = 0 ∧ m' = sdr m)) (hk : k + 1 ≤ 1000) : r = 0 ∧ One m' R nm g l1 l2 true (k + 1) := by
  rcases hF with ⟨hg, _⟩ | ⟨_, h0, rfl⟩
  · rw [h.pw, h.gone] at hg; cases hg
  · refine ⟨h0, ?_⟩
    have hs := h.steps
    have hn := h.n
    unfold Go.Proofs.Ytgbijkdfhkkieaa.sdr
    rw [h.pw]
    exact ⟨by simp [dn, h.left], h.gone, by simp only [dn]; omega, h.files, by simp [dn, h.files], h.room, h.used, h.ids, h.ct, by simp only [dn]; omega, h.b1, h.b2, hk⟩
theorem One.crs (h : One m R nm g l1 l2 true k) (ps : List Int) : One (mcr m ps) R nm g (crF l1 l2 ps).1 (crF l1 l2 ps).1 true k := by
  have hg : gof (D1 nm g) nm.data.toList = g := gof_held (d1_at nm g)
  have hsu : m.sure = D1 nm g := by rw [h.sure]; rfl
  have e : cfo m.sure ⟨m.ct, ps, 0⟩ (nms m.sure) = ⟨upd m.ct g ((crF l1 l2 ps).1, (crF l1 l2 ps).1), (crF l1 l2 ps).2, 0 + (sec (crF l1 l2 ps).1.length : Int)⟩ := by
    rw [hsu, d1_nms]
    simp only [cfo, List.foldl_cons, List.foldl_nil, cst, hg, h.ct]
  have hl : (crF l1 l2 ps).1.length ≤ 4000 := by
    rw [crF_length]
    have := (crSz_le l1 l2 ps).2
    have := h.b1
    have := h.b2
    omega
  unfold mcr
  rw [e]
  exact ⟨rfl, rfl, h.steps, hsu, by simp [hsu], h.room, by simp, h.ids, by simp [upd], h.n, hl, hl, h.k1⟩
/-- What Read hands out. -/
theorem One.rd (h : One m R nm g l1 l2 sd k) (hn : nameOk nm = true) {w w' : World} {e : Ending} (hR : Rr w m nm e w') : Below w.heap.size w w' ∧ ∃ a n c, e = .returned (.tuple #[.slice a n c, .int .i64 0]) ∧ Has w' a n c l1 ∧ ∀ j, (Value.slice a n c).ownBlock = some j → w.heap.size ≤ j := by
  obtain ⟨B, ⟨g', a, n, c, hb, _, he, hH, hj⟩ | ⟨r, _, _, hno⟩⟩ := hR
  · have hg : g' = g := by
      have := hb.2.2
      rw [h.files] at this
      exact d1_at' this
    rw [hg, h.ct] at hH
    exact ⟨B, a, n, c, he, hH, hj⟩
  · exact (hno g ⟨hn, h.gone, by rw [h.files]; exact d1_at nm g⟩).elim
end
theorem hi_nil (w : World) : Hi w none 0 0 [] := ⟨rfl, Nat.le_refl _, Nat.zero_le _, fun _ => rfl, fun h => by omega, fun x hx => by cases hx⟩
theorem works_cr1 : crF [7, 8] [7] [] = ([7], []) := by decide +kernel
theorem works_cr2 : crF [7, 8] [7] [1, 1] = ([7, 8], []) := by decide +kernel
theorem name_a : nameOk ⟨#[97]⟩ = true := by decide +kernel
theorem name_f : nameOk ⟨#[102]⟩ = true := by decide +kernel
end Go.Proofs.Ytgbijkdfhkkieaa
