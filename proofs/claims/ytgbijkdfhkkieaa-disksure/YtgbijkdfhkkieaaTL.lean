/-
  What stays of a file that is sure; a crash behind a crash; base.SameTexts; from a crash to a file that is sure; images of files; what stays meanwhile.
-/
import Derived.Test.YtgbijkdfhkkieaaTI
import Derived.Test.YtgbijkdfhkkieaaTH
import Derived.Maps.AppendAt
namespace Go.Proofs.Ytgbijkdfhkkieaa
open Go.RowKit Go.Maps Go.Shelf
set_option linter.unusedVariables false
set_option linter.unusedSimpArgs false
theorem key_inj {s t : ByteArray} (h : key s = key t) : s = t := by
  have h1 : s.data.toList = t.data.toList := by injection h
  cases s; cases t
  simp only [ByteArray.mk.injEq]
  exact Array.toList_inj.1 h1
theorem key_eq {x : List UInt8} {s : ByteArray} (h : (Lit.string x) = key s) : x = s.data.toList := by injection h
theorem mxA_same : ∀ (f : Nat) (S p : List Int), (mxA f S S p).1 = S
  | 0, S, p => rfl
  | f + 1, S, p => by
    unfold mxA
    split
    · rename_i e; rw [e]
    · have e : mixS (S.take 256) (S.take 256) p = (S.take 256, p) := by unfold mixS; rw [if_pos rfl]
      simp only [e, mxA_same f]
      exact List.take_append_drop 256 S
theorem crF_same (b ps : List Int) : (crF b b ps).1 = b := by
  have e : crSz b b ps = (b.length, ps) := by unfold crSz; rw [if_neg (by omega)]
  have e2 : fil b b.length = b := by simp [fil]
  unfold crF
  rw [e]
  simp only [e2]
  exact mxA_same _ _ _
/-- The file g of the name nm is sure, with the bytes b, and has no other name. -/
structure Kpt (m : M) (nm : ByteArray) (g : Nat) (b : List Int) : Prop where
  fi : m.files.atKey (key nm) .nil = .held g
  su : m.sure.atKey (key nm) .nil = .held g
  ct : m.ct g = (b, b)
  of : ∀ x, m.files.atKey (.string x) .nil = .held g → x = nm.data.toList
  os : ∀ x, m.sure.atKey (.string x) .nil = .held g → x = nm.data.toList
  id : g ∈ m.ids
theorem cfo_kept {D : DataW Nat} {c0 : CS} {g : Nat} {b : List Int} (h : c0.ct g = (b, b)) : ∀ ss : List (List UInt8), (cfo D c0 ss).ct g = (b, b) := by
  refine snocInd h ?_
  intro ss x ih
  rw [cfo_snoc]
  generalize cfo D c0 ss = c at ih
  simp only [cst, upd]
  split
  · rename_i e
    rw [← e, ih]
    simp only [crF_same]
  · exact ih
theorem Kpt.next {w : World} {d : Nat} {m m' : M} {T : Nat → Prop} {s t nm : ByteArray} {g : Nat} {b : List Int} (hD : Disk w d m T) (h : Kpt m nm g b) (ht : Tu s t m m') (hs : s ≠ nm) (htn : t ≠ nm) : Kpt m' nm g b := by
  obtain ⟨e1, e2, e3, e4, e5, e6, e7, e8, e9⟩ := pw_same m
  have imf : IsMap m.files := by
    obtain ⟨bf, bs, V, h⟩ := hD
    exact h.mf.isMap
  have ks : key nm ≠ key s := fun e => hs (key_inj e).symm
  have kt : key nm ≠ key t := fun e => htn (key_inj e).symm
  have ng : ∀ g', m.files.atKey (key s) .nil = .held g' → g' ≠ g := fun g' hg' e => by
    subst e
    have := h.of _ hg'
    exact hs (key_inj (by show Lit.string _ = Lit.string _; rw [this]))
  have hp : Kpt (pw m) nm g b := ⟨by rw [e1]; exact h.fi, by rw [e2]; exact h.su, by rw [e4]; exact h.ct, by rw [e1]; exact h.of, by rw [e2]; exact h.os, by rw [e3]; exact h.id⟩
  cases ht with
  | same => exact h
  | pow => exact hp
  | crt g' hno hg' =>
    have hgg : g ≠ g' := fun e => hg' (e ▸ h.id)
    refine ⟨?_, hp.su, ?_, ?_, hp.os, List.mem_cons_of_mem _ hp.id⟩
    · show ((pw m).files.put (key s) (.held g')).atKey (key nm) .nil = _
      rw [atKey_put_other ks]; exact hp.fi
    · show upd _ g' _ g = _
      unfold upd
      rw [if_neg hgg]; exact hp.ct
    · intro x hx
      replace hx : ((pw m).files.put (key s) (.held g')).atKey (.string x) .nil = .held g := hx
      by_cases e : (Lit.string x) = key s
      · rw [e, e1, atKey_put_same imf (isKey _)] at hx
        cases hx; exact (hgg rfl).elim
      · rw [atKey_put_other e] at hx
        exact hp.of x hx
  | put g' l u hf hg' _ _ _ _ =>
    have hgg : ¬ g = g' := fun e => ng g' hf.2.2 e.symm
    refine ⟨hp.fi, hp.su, ?_, hp.of, hp.os, hp.id⟩
    show upd _ g' _ g = _
    unfold upd
    rw [if_neg hgg]; exact hp.ct
  | syn g' hf hg' =>
    have hgg : ¬ g = g' := fun e => ng g' hf.2.2 e.symm
    refine ⟨hp.fi, hp.su, ?_, hp.of, hp.os, hp.id⟩
    show upd _ g' _ g = _
    unfold upd
    rw [if_neg hgg]; exact hp.ct
  | ren => exact ⟨hp.fi, hp.su, hp.ct, hp.of, hp.os, hp.id⟩
  | ren2 g' u D hf hg' hst hDr =>
    have hgg : g' ≠ g := ng g' hf
    have hDm : IsMap D ∧ D.atKey (key nm) .nil = .held g ∧ ∀ x, (Lit.string x) ≠ key t → D.atKey (.string x) .nil = .held g → x = nm.data.toList := by
      rcases hDr with ⟨_, _, rfl⟩ | ⟨g2, _, _, _, rfl⟩
      · rw [e1]; exact ⟨imf, h.fi, fun x _ hx => h.of x hx⟩
      · rw [e1]
        refine ⟨isMap_del imf _, by rw [atKey_del_other kt]; exact h.fi, fun x hx1 hx => ?_⟩
        rw [atKey_del_other hx1] at hx
        exact h.of x hx
    refine ⟨?_, hp.su, hp.ct, ?_, hp.os, hp.id⟩
    · show ((D.del (key s)).put (key t) (.held g')).atKey (key nm) .nil = _
      rw [atKey_put_other kt, atKey_del_other ks]; exact hDm.2.1
    · intro x hx
      replace hx : ((D.del (key s)).put (key t) (.held g')).atKey (.string x) .nil = .held g := hx
      by_cases e : (Lit.string x) = key t
      · rw [e, atKey_put_same (isMap_del hDm.1 _) (isKey _)] at hx
        cases hx; exact (hgg rfl).elim
      · rw [atKey_put_other e] at hx
        by_cases e' : (Lit.string x) = key s
        · rw [e', atKey_del_same] at hx; cases hx
        · rw [atKey_del_other e'] at hx
          exact hDm.2.2 x e hx
  | rmv g' hf hg' =>
    refine ⟨?_, hp.su, hp.ct, ?_, hp.os, hp.id⟩
    · show ((pw m).files.del (key s)).atKey (key nm) .nil = _
      rw [atKey_del_other ks]; exact hp.fi
    · intro x hx
      replace hx : ((pw m).files.del (key s)).atKey (.string x) .nil = .held g := hx
      by_cases e' : (Lit.string x) = key s
      · rw [e', atKey_del_same] at hx; cases hx
      · rw [atKey_del_other e'] at hx
        exact hp.of x hx
  | sdr => exact ⟨hp.fi, hp.fi, hp.ct, hp.of, hp.of, hp.id⟩
  | fus n hn => exact ⟨h.fi, h.su, h.ct, h.of, h.os, h.id⟩
  | rom n => exact ⟨h.fi, h.su, h.ct, h.of, h.os, h.id⟩
  | crs ps => exact ⟨h.su, h.su, cfo_kept (c0 := ⟨m.ct, ps, 0⟩) h.ct _, h.os, h.os, h.id⟩
/-- What is sure is what is there. -/
def Tw (m : M) : Prop := ∀ s ∈ nms m.sure, (m.ct (gof m.sure s)).1 = (m.ct (gof m.sure s)).2
theorem cfo_pair {D : DataW Nat} {c0 : CS} : ∀ ss : List (List UInt8), ∀ s ∈ ss, ((cfo D c0 ss).ct (gof D s)).1 = ((cfo D c0 ss).ct (gof D s)).2 := by
  refine snocInd (fun s hs => by cases hs) ?_
  intro ss x ih s hs
  rw [cfo_snoc]
  generalize cfo D c0 ss = c at ih
  simp only [cst, upd]
  split
  · rfl
  · rename_i hne
    rcases List.mem_append.1 hs with hs | hs
    · exact ih s hs
    · rw [List.mem_singleton.1 hs] at hne
      exact (hne rfl).elim
theorem tw_mcr (m : M) (ps : List Int) : Tw (mcr m ps) := fun s hs => cfo_pair (nms m.sure) s hs
theorem mcr_same {m : M} (h : Tw m) (ps : List Int) : ∀ s ∈ nms m.sure, (mcr m ps).ct (gof m.sure s) = m.ct (gof m.sure s) := by
  have key : ∀ ss : List (List UInt8), (∀ x ∈ ss, x ∈ nms m.sure) → ∀ s ∈ nms m.sure, (cfo m.sure ⟨m.ct, ps, 0⟩ ss).ct (gof m.sure s) = m.ct (gof m.sure s) := by
    refine snocInd (fun _ s _ => rfl) ?_
    intro ss x ih hss s hs
    have ih' := ih (fun y hy => hss y (by simp [hy]))
    rw [cfo_snoc]
    generalize cfo m.sure ⟨m.ct, ps, 0⟩ ss = c at ih'
    simp only [cst, upd]
    split
    · rename_i e
      have hx := hss x (by simp)
      rw [ih' x hx, ← h x hx, crF_same, e]
      have := h x hx
      exact Prod.ext rfl this
    · exact ih' s hs
  exact key _ (fun x hx => hx)
/-- What Read tells of a name. -/
def cont (m : M) (s : List UInt8) : List Int := if nameOk ⟨s.toArray⟩ = true then (m.ct (gof m.files s)).1 else []
theorem names_held {w : World} {d : Nat} {m : M} {T : Nat → Prop} (h : Disk w d m T) (hG : Gd m.files) : ∀ s ∈ nms m.files, ∃ g, m.files.atKey (.string s) .nil = .held g := by
  obtain ⟨bf, bs, V, h⟩ := h
  obtain ⟨zs, hz⟩ := names_are h.mf hG
  intro s hs
  rw [← hz] at hs
  obtain ⟨z, _, rfl⟩ := List.mem_map.1 hs
  exact z.2.2
theorem cont_mcr {m : M} (h : Tw m) (hf : m.files = m.sure) (ps : List Int) : ∀ s ∈ nms m.files, cont (mcr m ps) s = cont m s := by
  intro s hs
  have := mcr_same h ps s (by rw [← hf]; exact hs)
  unfold cont
  show (if nameOk ⟨s.toArray⟩ = true then ((mcr m ps).ct (gof m.sure s)).1 else []) = _
  rw [this, hf]
theorem read_cont {w w' : World} {m : M} {s : List UInt8} {e : Ending} {g : Nat} (hg : m.files.atKey (.string s) .nil = .held g) (hgo : m.gone = false) (h : Rr w m ⟨s.toArray⟩ e w') : ∃ a n c r, e = .returned (.tuple #[.slice a n c, .int .i64 r]) ∧ Has w' a n c (cont m s) ∧ Below w.heap.size w w' ∧ ∀ k, (Value.slice a n c).ownBlock = some k → w.heap.size ≤ k := by
  obtain ⟨B, ⟨g', a, n, c, hb, _, he, hH, hj⟩ | ⟨r, hr, he, hno⟩⟩ := h
  · have e1 : g' = g := by
      have := hb.2.2
      have e2 : m.files.atKey (key ⟨s.toArray⟩) .nil = .held g := hg
      rw [e2] at this
      cases this; rfl
    subst e1
    refine ⟨a, n, c, 0, he, ?_, B, hj⟩
    unfold cont
    rw [if_pos hb.1, gof_held hg]
    exact hH
  · refine ⟨none, 0, 0, r, he, ?_, B, fun k hk => by cases hk⟩
    have : ¬ nameOk ⟨s.toArray⟩ = true := fun hn => hno g ⟨hn, hgo, hg⟩
    unfold cont
    rw [if_neg this]
    exact has_nil w'
end Go.Proofs.Ytgbijkdfhkkieaa
namespace Go.Proofs.Ytgbijkdfhkkieaa
open Go.RowKit Go.Maps Go.Lib
set_option linter.unusedVariables false
set_option linter.unusedSimpArgs false
set_option maxHeartbeats 2000000 in
set_option maxRecDepth 100000 in
theorem sameTexts_any {w : World} {a a' : Option Addr} {n c c' : Nat} {L : List (List UInt8)} (h : HasS w a n c L) (h' : HasS w a' n c' L) (hn : n ≤ 1073741824) :
    Calls Try.prog 22 #[.slice a n c, .slice a' n c'] w fun e w' => e = .returned (.bool true) ∧ ∃ m, w' = w.drewN m := by
  have hc := hide h.cells
  have hc' := hide h'.cells
  clear h h'
  go_enter Try.func22, Try.ntmps22
  go_wp2_with fail
  go_loopw [5] (fun i wr => ∃ k : Nat, k ≤ n ∧ i = .int .i64 (k : Int) ∧ Hid (∃ m, wr = w.drewN m)) (fun i _ => n - (RowKit.intOf i).toNat)
  case atStart => exact ⟨0, Nat.zero_le _, rfl, ⟨0, rfl⟩⟩
  case round =>
    obtain ⟨k, hk, rfl, hm⟩ := hrel
    by_cases hkn : k < n
    · have i1 : (k : Int) < (n : Int) := by omega
      obtain ⟨b, off, rfl, _, hb⟩ := hc.out (by omega)
      obtain ⟨b', off', rfl, _, hb'⟩ := hc'.out (by omega)
      have hhp : wr.heap = w.heap := by obtain ⟨m, e⟩ := hm.out; rw [e]; rfl
      have ce : ∀ p : Addr, wr.cell? p = w.cell? p := fun p => World.cell?_of_block (by rw [hhp])
      have c0 : wr.cell? ⟨b, off + k, none⟩ = some (.string ⟨(L.getD k []).toArray⟩) := (ce _).trans (hb k hkn)
      have c1 : wr.cell? ⟨b', off' + k, none⟩ = some (.string ⟨(L.getD k []).toArray⟩) := (ce _).trans (hb' k hkn)
      generalize (⟨(L.getD k []).toArray⟩ : ByteArray) = s at c0 c1
      have e1 : (ByteArray.toList s != ByteArray.toList s) = false := by simp
      have e2 : (ByteArray.toList s == ByteArray.toList s) = true := by simp
      clear hb hb' ce hhp
      go_wp2_with fail
      go_quiet (fail)
      go_wp2_with fail
      go_roundw
      case rel => exact ⟨k + 1, by omega, by go_num, (by obtain ⟨m, e⟩ := hm.out; exact ⟨m + nq, by rw [e, World.drewN_drewN]⟩ : ∃ m, wr.drewN nq = w.drewN m)⟩
      case measure => simp [RowKit.intOf]; omega
    · have i1 : ¬ ((k : Int) < (n : Int)) := by omega
      go_wp2_with fail
      go_ret
      exact ⟨rfl, hm.out⟩
end Go.Proofs.Ytgbijkdfhkkieaa
namespace Go.Proofs.Ytgbijkdfhkkieaa
open Go.RowKit Go.Maps Go.Shelf
set_option linter.unusedVariables false
set_option linter.unusedSimpArgs false
/-- The name that the law gives. -/
def nmK : ByteArray := ⟨#[107, 101, 112, 116]⟩
theorem name_K : nameOk nmK = true := by decide +kernel
/-- A disk with power, and room. -/
structure Fr (m : M) : Prop where
  l : m.left = -1
  g : m.gone = false
  r : m.room = 65536
theorem Fr.pw {m : M} (h : Fr m) : pw m = m := if_neg (by rw [h.l]; decide)
theorem Fr.dn {m m' : M} (h : Fr m) (h1 : m'.left = m.left) (h2 : m'.gone = m.gone) (h3 : m'.room = m.room) : Fr (dn m') := by
  refine ⟨?_, ?_, ?_⟩
  · show (if 0 < m'.left then m'.left - 1 else m'.left) = -1
    rw [h1, h.l]; rfl
  · show m'.gone = false
    rw [h2]; exact h.g
  · show m'.room = _
    rw [h3]; exact h.r
theorem Fr.rmv {w : World} {d : Nat} {m m' : M} {T : Nat → Prop} {r : Int} (h : Fr m) (hD : Disk w d m T) (hF : Fs m nmK (fun g r m' => r = 0 ∧ m' = rmv m nmK g) r m') : Fr m' ∧ m'.files.atKey (key nmK) .nil = .nil := by
  rcases hF with ⟨g, hf, _, _, rfl⟩ | ⟨_, hno, hm⟩
  · unfold Go.Proofs.Ytgbijkdfhkkieaa.rmv
    rw [h.pw]
    exact ⟨h.dn rfl rfl rfl, atKey_del_same _⟩
  · have e : m' = m := by
      rcases hm with e | e
      · exact e
      · rw [e, h.pw]
    subst e
    refine ⟨h, ?_⟩
    obtain ⟨bf, bs, V, hd⟩ := hD
    rcases look hd.mf (s := nmK) (by unfold maxLen; decide) with ⟨e, _⟩ | ⟨g, e, _⟩
    · exact e
    · exact (hno g ⟨name_K, by rw [h.pw]; exact h.g, e⟩).elim
/-- .. with the file g, of the bytes l1, of which l2 are sure, that has this name alone. -/
structure S1 (m : M) (g : Nat) (l1 l2 : List Int) : Prop where
  fr : Fr m
  fi : m.files.atKey (key nmK) .nil = .held g
  of : ∀ x, m.files.atKey (.string x) .nil = .held g → x = nmK.data.toList
  ct : m.ct g = (l1, l2)
  id : g ∈ m.ids
theorem Fr.crt {w : World} {d : Nat} {m m' : M} {T : Nat → Prop} {r : Int} (h : Fr m) (hD : Disk w d m T) (hn : m.files.atKey (key nmK) .nil = .nil) (hC : Cr m T nmK r m') : r = 0 ∧ ∃ g, S1 m' g [] [] := by
  rcases hC with ⟨e, _⟩ | ⟨_, e, _⟩ | ⟨_, _, ⟨g, e⟩, _⟩ | ⟨_, _, _, e, g, hg, _, rfl⟩
  · rw [name_K] at e; cases e
  · rw [h.pw, h.g] at e; cases e
  · rw [hn] at e; cases e
  · refine ⟨e, g, ?_⟩
    obtain ⟨bf, bs, V, hd⟩ := hD
    have imf := hd.mf.isMap
    unfold Go.Proofs.Ytgbijkdfhkkieaa.crt
    rw [h.pw]
    refine ⟨h.dn rfl rfl rfl, atKey_put_same imf (isKey _) _ _, fun x hx => ?_, ?_, List.mem_cons_self⟩
    · replace hx : (m.files.put (key nmK) (.held g)).atKey (.string x) .nil = .held g := hx
      by_cases e' : (Lit.string x) = key nmK
      · exact key_eq e'
      · rw [atKey_put_other e'] at hx
        exact (hg (hd.vf x g hx)).elim
    · show upd m.ct g ([], []) g = _
      simp [upd]
theorem S1.fs {m m' : M} {g : Nat} {l1 l2 : List Int} {r : Int} {Φ : Nat → Int → M → Prop} (h : S1 m g l1 l2) (hF : Fs m nmK Φ r m') : Φ g r m' := by
  rcases hF with ⟨g', hf, _, hp⟩ | ⟨_, hno, _⟩
  · have := hf.2.2
    rw [h.fi] at this
    cases this; exact hp
  · exact (hno g ⟨name_K, by rw [h.fr.pw]; exact h.fr.g, h.fi⟩).elim
theorem S1.app {m m' : M} {g k : Nat} {B : List Int} {r : Int} (h : S1 m g [] []) (hO : Ok m k) (hk : k ≤ 60) (hB : B.length ≤ 1500) (hF : Fs m nmK (fun g => Pt (pw m) g ((pw m).ct g).1.length B) r m') : r = 0 ∧ S1 m' g B [] := by
  have hp := h.fs hF
  rw [h.fr.pw] at hp
  have e1 : (m.ct g).1.length = 0 := by rw [h.ct]; rfl
  rw [e1] at hp
  have hu := hO.u2
  have hk2 : 7 * k * k + 6 * k ≤ 7 * 60 * 60 + 6 * 60 := sq_mono hk
  have e2 : max (m.ct g).1.length (0 + B.length) = B.length := by rw [e1]; omega
  have hs : sec B.length ≤ 6 := by unfold sec; omega
  have e3 : pUsed m g (max (m.ct g).1.length (0 + B.length)) ≤ m.room := by
    rw [e2, h.fr.r]
    unfold pUsed
    omega
  rcases hp with ⟨_, _, hno⟩ | ⟨h0, _, rfl⟩
  · exact (hno ⟨by rw [e2]; omega, e3⟩).elim
  · refine ⟨h0, h.fr.dn rfl rfl rfl, h.fi, h.of, ?_, h.id⟩
    show upd m.ct g _ g = _
    simp [upd, h.ct, wr]
theorem S1.syn {m m' : M} {g : Nat} {B l2 : List Int} {r : Int} (h : S1 m g B l2) (hF : Fs m nmK (fun g r m' => r = 0 ∧ m' = syn m g) r m') : r = 0 ∧ S1 m' g B B := by
  obtain ⟨h0, rfl⟩ := h.fs hF
  unfold Go.Proofs.Ytgbijkdfhkkieaa.syn
  rw [h.fr.pw]
  refine ⟨h0, h.fr.dn rfl rfl rfl, h.fi, h.of, ?_, h.id⟩
  show upd m.ct g _ g = _
  simp [upd, h.ct]
theorem S1.sdr {m m' : M} {g : Nat} {B : List Int} {r : Int} (h : S1 m g B B) (hF : ((pw m).gone = true ∧ r = 8 ∧ m' = pw m) ∨ ((pw m).gone = false ∧ r = 0 ∧ m' = sdr m)) : r = 0 ∧ Kpt m' nmK g B := by
  rcases hF with ⟨hg, _⟩ | ⟨_, h0, rfl⟩
  · rw [h.fr.pw, h.fr.g] at hg; cases hg
  · unfold Go.Proofs.Ytgbijkdfhkkieaa.sdr
    rw [h.fr.pw]
    exact ⟨h0, h.fi, h.fi, h.ct, h.of, h.of, h.id⟩
theorem Kpt.read {w w' : World} {m : M} {nm : ByteArray} {g : Nat} {b : List Int} {e : Ending} (h : Kpt m nm g b) (hn : nameOk nm = true) (hg : m.gone = false) (hR : Rr w m nm e w') : ∃ a n c, e = .returned (.tuple #[.slice a n c, .int .i64 0]) ∧ Has w' a n c b ∧ Below w.heap.size w w' ∧ ∀ k, (Value.slice a n c).ownBlock = some k → w.heap.size ≤ k := by
  obtain ⟨B, ⟨g', a, n, c, hb, _, he, hH, hj⟩ | ⟨r, hr, he, hno⟩⟩ := hR
  · have e1 : g' = g := by
      have := hb.2.2
      rw [h.fi] at this
      cases this; rfl
    subst e1
    rw [h.ct] at hH
    exact ⟨a, n, c, he, hH, B, hj⟩
  · exact (hno g ⟨hn, hg, h.fi⟩).elim

theorem info23 : (Try.prog.info? 23).map (fun i => (i.zero, i.size, i.bytes)) = some (some (.slice none 0 0), 1, 24) := by kernel_rfl
/-- Images of files: rows of bytes, apart from the row that has them, all from base on. -/
def Img (w : World) (base : Nat) (v : Value) (cs : List (List Int)) : Prop := ∃ vs : List Value, w.ownsRow base 23 1 v cs.length vs ∧ ∀ i, i < cs.length → ∃ a n c, vs[i]? = some (.slice a n c) ∧ Has w a n c (cs.getD i []) ∧ ∀ j, 0 < n → (Value.slice a n c).ownBlock = some j → base ≤ j ∧ v.ownBlock ≠ some j
theorem Img.kept {w w' : World} {base : Nat} {v : Value} {cs : List (List Int)} (h : Img w base v cs) {S : Nat → Prop} (hb : But S w w') (hS : ∀ x, S x → x < base) : Img w' base v cs := by
  obtain ⟨vs, hO, hv⟩ := h
  refine ⟨vs, owns_of_block hO (fun k hk => hb.block k (hO.lt k hk).2 (fun e => by have := hS k e; have := (hO.lt k hk).1; omega)), fun i hi => ?_⟩
  obtain ⟨a, n, c, e1, e2, e3⟩ := hv i hi
  exact ⟨a, n, c, e1, e2.but2 hb (fun hp j hj e => by have := hS j e; have := (e3 j hp hj).1; omega), e3⟩
theorem img_nil (w : World) : Img (w.alloc (.cells #[] 23)) w.heap.size (.slice (some ⟨w.heap.size, 0, none⟩) 0 0) [] :=
  ⟨[], by simpa using World.ownsRow_made (e := 23) (size := 1) w #[] 0 (Nat.le_refl _) (Nat.zero_le _) (by simp), fun i hi => by cases hi⟩
section
variable {w : World} {ops : Array Oper} {rest : List Oper} {o : Oper} {a : Act} {Q : Exit → Act → World → Prop}
theorem wpList_img (hgd : o.guard = none) (s x : Operand) (ho : o.op = .call { callee := .builtin .append, args := #[s, x], argTypes := #[47, 47] })
    (base : Nat) (v : Value) (cs : List (List Int)) (hs : a.eval s = v) (hI : Img w base v cs) (hl : cs.length ≤ 1073741824)
    (q cap : Nat) (ax : Option Addr) (n c : Nat) (l : List Int) (hx : a.eval x = .slice (some ⟨q, 0, none⟩) 1 cap) (h0 : w.cell? ⟨q, 0, none⟩ = some (.slice ax n c)) (hH : Has w ax n c l)
    (hj : ∀ j, 0 < n → (Value.slice ax n c).ownBlock = some j → base ≤ j ∧ v.ownBlock ≠ some j) (hbase : base ≤ w.heap.size)
    (h : ∀ v' w', (∃ a' c', v' = .slice a' (cs.length + 1) c') → Img w' base v' (cs ++ [l]) → w.grownBy w' v.ownBlock → (∀ k, v.ownBlock = some k → base ≤ k) → wpList Try.prog ops Q rest (a.put o.dst v') w') : wpList Try.prog ops Q (o :: rest) a w := by
  obtain ⟨i0, hi, hz0, hz1, hz2⟩ := info_parts info23
  obtain ⟨vs, hO, hv⟩ := hI
  refine wpList_append_own_at w hgd s x 47 ho base 23 i0 (.slice none 0 0) 1 24 Try.underlying47 hi hz0 hz1 hz2 rfl (by decide) v cs.length vs hs hO ⟨q, 0, none⟩ 1 cap [.slice ax n c] hx rfl
    (fun j u hj => by
      match j, hj with
      | 0, hj => simp at hj; subst hj; simpa [Addr.add] using h0
      | j + 1, hj => simp at hj) (fun u hu => by simp at hu; subst hu; rfl) (by unfold maxLen; omega) (by omega) hbase ?_
  intro v' w' hO' hg _ hat
  have bt : But (fun k => v.ownBlock = some k) w w' := (But.refl _ w).grown hg (fun k e _ => e)
  have hvl : vs.length = cs.length := by simpa using hO.1
  have hne : ∀ j, j < w.heap.size → v.ownBlock ≠ some j → v'.ownBlock ≠ some j := fun j hjl hjv e => by
    rcases hat with e' | e'
    · rw [e'] at e; exact hjv e
    · rw [e'] at e
      have : w.heap.size = j := Option.some.inj e
      omega
  refine h v' w' ?_ ⟨vs ++ [.slice ax n c], by simpa using hO', fun i hi => ?_⟩ hg (fun k hk => (hO.lt k hk).1)
  · rcases hO'.2 with ⟨_, e⟩ | ⟨g, cap', cur, e, _⟩
    · omega
    · exact ⟨_, _, e⟩
  · by_cases hil : i < cs.length
    · obtain ⟨a1, n1, c1, e1, e2, e3⟩ := hv i hil
      refine ⟨a1, n1, c1, by rw [List.getElem?_append_left (by omega)]; exact e1, ?_, fun j hp hjj => ⟨(e3 j hp hjj).1, hne j (e2.bound hp hjj) (e3 j hp hjj).2⟩⟩
      have e4 : (cs ++ [l]).getD i [] = cs.getD i [] := by simp [List.getD, List.getElem?_append_left hil]
      rw [e4]
      exact e2.but2 bt (fun hp j hjj e => (e3 j hp hjj).2 e)
    · have e5 : i = cs.length := by simp at hi; omega
      subst e5
      refine ⟨ax, n, c, by rw [List.getElem?_append_right (by omega), hvl]; simp, ?_, fun j hp hjj => ⟨(hj j hp hjj).1, hne j (hH.bound hp hjj) (hj j hp hjj).2⟩⟩
      have e4 : (cs ++ [l]).getD cs.length [] = l := by simp [List.getD]
      rw [e4]
      exact hH.but2 bt (fun hp j hjj e => (hj j hp hjj).2 e)
end
/-- Where an image lies. -/
theorem Img.at {w : World} {base : Nat} {v : Value} {cs : List (List Int)} (h : Img w base v cs) {i : Nat} (hi : i < cs.length) : ∃ g cap a n c, v = .slice (some ⟨g, 0, none⟩) cs.length cap ∧ w.cell? ⟨g, i, none⟩ = some (.slice a n c) ∧ Has w a n c (cs.getD i []) := by
  obtain ⟨vs, hO, hv⟩ := h
  obtain ⟨a, n, c, e1, e2, _⟩ := hv i hi
  rcases hO.2 with ⟨_, e⟩ | ⟨g, cap, cur, e, _⟩
  · omega
  · have := hO.cells (g := g) (by rw [e]; rfl) i _ e1
    rw [add_plain, Nat.zero_add] at this
    exact ⟨g, cap, a, n, c, e, this, e2⟩
/-- What stays while calls on the disk go on: names, bytes, the four answers. -/
structure Fx (w : World) (T : Nat → Prop) (ba : Nat) (aS : Option Addr) (nS cS : Nat) (zs : List (List UInt8)) (ax : Option Addr) (nx cx : Nat) (b : List Int) : Prop where
  s : HasS w aS nS cS zs
  sT : 0 < nS → ∀ j, (Value.slice aS nS cS).ownBlock = some j → ¬ T j
  x : Has w ax nx cx b
  xT : 0 < nx → ∀ j, (Value.slice ax nx cx).ownBlock = some j → ¬ T j
  a : Bx w ba 28 #[.int .i64 0, .int .i64 0, .int .i64 0, .int .i64 0]
  aT : ¬ T ba
theorem HasS.bound {w : World} {a : Option Addr} {n c k : Nat} {L : List (List UInt8)} (h : HasS w a n c L) (hp : 0 < n) (hk : (Value.slice a n c).ownBlock = some k) : k < w.heap.size := by
  obtain ⟨b, off, e1, e2, _⟩ := h.cells hp
  rw [e1] at hk
  have e : b = k := by simpa [Value.ownBlock] using hk
  omega
section
variable {w w' : World} {T T' : Nat → Prop} {ba : Nat} {aS : Option Addr} {nS cS : Nat} {zs : List (List UInt8)} {ax : Option Addr} {nx cx : Nat} {b : List Int}
theorem Fx.but (h : Fx w T ba aS nS cS zs ax nx cx b) (hb : But T w w') (hT : ∀ x, T' x → T x ∨ w.heap.size ≤ x) : Fx w' T' ba aS nS cS zs ax nx cx b where
  s := h.s.kept hb h.sT
  sT := fun hp j hj e => by
    rcases hT j e with e | e
    · exact h.sT hp j hj e
    · have := h.s.bound hp hj; omega
  x := h.x.but2 hb h.xT
  xT := fun hp j hj e => by
    rcases hT j e with e | e
    · exact h.xT hp j hj e
    · have := h.x.bound hp hj; omega
  a := h.a.but hb h.aT
  aT := fun e => by
    rcases hT ba e with e | e
    · exact h.aT e
    · have := h.a.lt; omega
theorem Fx.below (h : Fx w T ba aS nS cS zs ax nx cx b) (hb : Below w.heap.size w w') : Fx w' T ba aS nS cS zs ax nx cx b := h.but (But.of_below hb T) (fun x hx => .inl hx)
end
end Go.Proofs.Ytgbijkdfhkkieaa
