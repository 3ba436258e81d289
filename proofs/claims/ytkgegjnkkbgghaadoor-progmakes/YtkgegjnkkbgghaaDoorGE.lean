/-
  shape, Check, by the reference, of any pattern.
-/
import Derived.Test.YtkgegjnkkbgghaaDoorGD
namespace Go.Proofs.YtkgegjnkkbgghaaDoor
open Go.RowKit
set_option linter.unusedVariables false
set_option linter.unusedSimpArgs false

theorem shape_any : ∀ (N : Nat) (t : Tr), szT t ≤ N → ∀ (P : Nat → Prop) (v : Value) (w : World), TrV w P (reV t.1.k t.1.s v t.1.mn t.1.mx) t → szT t ≤ 4096 →
    Calls Tryd.prog 41 #[reV t.1.k t.1.s v t.1.mn t.1.mx] w fun e w' => e = .returned (.bool (shB t)) ∧ Below w.heap.size w w' := by
  intro N
  induction N with
  | zero => intro t h; simp [szT] at h
  | succ N ih =>
    intro t hN P v w T hsz
    obtain ⟨va, vc, rfl⟩ := T.sl
    by_cases hf : fitN t.1 t.2.len
    case neg =>
      refine (shape_no t.1 va t.2.len vc hf w).mono ?_
      rintro e w' ⟨rfl, B⟩
      exact ⟨by rw [shB_no (fun h => hf h.1)], B⟩
    have hl := len_le_sz t.2
    have hs1 : szT t = 1 + t.2.sz := rfl
    have K : ShK t P va vc w := ⟨fun w' hb i hi => by
      obtain ⟨b, c, u, hv, hld, Tk⟩ := TrV.kid (T.kept (fun b _ hl => hb.block b hl)) (i := i) hi
      obtain ⟨e1, _⟩ : va = some ⟨b, 0, none⟩ ∧ vc = c := by simpa using hv
      have hk := nth_sz t.2 i hi
      exact ⟨b, u, e1, hld, ih (t.2.nth i) (by omega) P u w' Tk (by omega)⟩⟩
    have fin : ∀ (e : Ending) (w' : World), (e = .returned (.bool true) ∧ t.2.fit ∨ e = .returned (.bool false) ∧ ¬ t.2.fit) ∧ Below w.heap.size w w' → e = .returned (.bool (shB t)) ∧ Below w.heap.size w w' := fun e w' h => by
      rcases h with ⟨⟨rfl, h⟩ | ⟨rfl, h⟩, B⟩
      · exact ⟨by rw [shB_yes ⟨hf, h⟩], B⟩
      · exact ⟨by rw [shB_no (fun hh => h hh.2)], B⟩
    clear T ih
    obtain ⟨⟨k, s, mn, mx⟩, f⟩ := t
    simp only at *
    have hn2 : f.len ≤ 10000 := by omega
    obtain ⟨h1, h2, h3, h4⟩ := hf
    simp only at h1 h2 h3 h4
    rcases h4 with ⟨rfl, h0⟩ | rfl | rfl | rfl
    · obtain ⟨rfl, rfl⟩ := h3 (by decide)
      have hff : f.fit := by
        cases f with
        | nil => trivial
        | cons a b c => simp [Fo.len] at h0
      rw [h0]
      by_cases hs : s = noSet
      · subst hs
        exact (ys1e va vc w).mono (fun e w' h => fin e w' ⟨.inl ⟨h.1, hff⟩, h.2⟩)
      · exact (ys1n s hs va vc w).mono (fun e w' h => fin e w' ⟨.inl ⟨h.1, hff⟩, h.2⟩)
    · obtain ⟨rfl, rfl⟩ := h3 (by decide)
      obtain rfl := h1 (by decide)
      exact (ys2 f P va vc f.len w rfl hn2 K).mono fin
    · obtain ⟨rfl, rfl⟩ := h3 (by decide)
      obtain rfl := h1 (by decide)
      exact (ys3 f P va vc f.len w rfl hn2 K).mono fin
    · obtain rfl := h1 (by decide)
      obtain ⟨hl1, ha⟩ := h2 rfl
      have ha2 : 0 ≤ mn ∧ mn ≤ 64 ∧ (mx = -1 ∨ mn ≤ mx ∧ mx ≤ 64) := by
        unfold arT at ha
        simp at ha
        omega
      obtain ⟨a1, a2, a3⟩ := ha2
      by_cases hmn : mn = 0
      · subst hmn
        by_cases hm1 : mx = -1
        · subst hm1
          exact (ys4c f P va vc f.len w rfl hn2 hl1 K).mono fin
        · by_cases hmx : mx = 0
          · subst hmx
            exact (ys4d f P va vc f.len w rfl hn2 hl1 K).mono fin
          · exact (ys4e mx hmx (by omega) hm1 (by omega) f P va vc f.len w rfl hn2 hl1 K).mono fin
      · by_cases hm1 : mx = -1
        · subst hm1
          exact (ys4a mn hmn a1 a2 f P va vc f.len w rfl hn2 hl1 K).mono fin
        · exact (ys4b mn mx hmn a1 a2 (by omega) hm1 (by omega) f P va vc f.len w rfl hn2 hl1 K).mono fin
section
variable {w : World} {ops : Array Oper} {rest : List Oper} {a : Act} {Q : Exit → Act → World → Prop} {dst : Option Nat} {x : Operand} {ty : TypeId} {pos : String} {after : Array Edge}
theorem at_loadG (t : TypeId) {gd : Nat × Bool} (h : wpList Tryd.prog ops Q (⟨dst, .load t x, ty, pos, after, some gd⟩ :: rest) a w) : wpList Tryd.prog ops Q (⟨dst, .load t x, ty, pos, after, some gd⟩ :: rest) a w := h
/-- A guarded load whose guard holds. -/
theorem wl_loadG (t : TypeId) {gd : Nat × Bool} {ad : Addr} {v : Value} (hw : Region.wanted ⟨dst, .load t x, ty, pos, after, some gd⟩ (yielded ops a.tmps) = true) (hx : a.eval x = .pointer (some ad)) (hl : (loadVar t ad).run Tryd.prog w = .ok v w) (k : wpList Tryd.prog ops Q rest (a.put dst v) w) : wpList Tryd.prog ops Q (⟨dst, .load t x, ty, pos, after, some gd⟩ :: rest) a w := by
  refine wpList_step fun K hK => ?_
  rw [if_pos hw]
  unfold Oper.wp execOp
  simp only [hx, Instr.loadAt, Instr.sureAddr, Sem.run_bind, Sem.run_pure, Result.andThen_ok, hl]
  exact hK _ _ k
end
set_option maxHeartbeats 2000000 in
set_option maxRecDepth 100000 in
theorem rcheck_any (t : Tr) (P : Nat → Prop) (v : Value) (w : World) (T : TrV w P (reV t.1.k t.1.s v t.1.mn t.1.mx) t) (hsz : szT t ≤ 4096) (hdp : dpT t ≤ 128) : Calls Tryd.prog 24 #[reV t.1.k t.1.s v t.1.mn t.1.mx] w fun e w' => e = .returned (.bool (shB t)) ∧ Below w.heap.size w w' := by
  have H := St.start Nope w
  have DP := hide (fun w' (hb : Below w.heap.size w w') => deep_any (szT t) t (Nat.le_refl _) 128 P v w' (T.kept (fun b _ hl => hb.block b hl)) (by omega) (by omega) hsz)
  have SH := hide (fun w' (hb : Below w.heap.size w w') => shape_any (szT t) t (Nat.le_refl _) P v w' (T.kept (fun b _ hl => hb.block b hl)) hsz)
  obtain ⟨va, vc, rfl⟩ := T.sl
  replace T := hide T
  obtain ⟨D, hD⟩ : ∃ D, dpT t = D := ⟨_, rfl⟩
  obtain ⟨Z, hZ⟩ : ∃ Z, szT t = Z := ⟨_, rfl⟩
  rw [hD, hZ] at DP
  rw [hD] at hdp
  rw [hZ] at hsz
  have i1 : (D : Int) ≤ 128 := by omega
  have i2 : (Z : Int) ≤ 4096 := by omega
  have i1b : decide ((D : Int) ≤ 128) = true := decide_eq_true i1
  have i2b : decide ((Z : Int) ≤ 4096) = true := decide_eq_true i2
  replace hD := hide hD
  replace hZ := hide hZ
  generalize shB t = o at SH ⊢
  go_enter Tryd.func24, Tryd.ntmps24
  go_wp2_with (first | ((with_reducible refine at_box 27 ?_); refine wl_box28 H rfl ?_; clear H; intro g w1 H q1 q2; have ld := load28 (H.get 0 rfl)) | ((with_reducible refine at_load 27 ?_); refine wl_load28 0 H rfl rfl ?_))
  refine (DP.out _ H.below).mono ?_
  rintro e w2 ⟨rfl, B2⟩
  replace H := H.call B2 (Nat.le_refl _)
  have ld2 := load28 (H.get 0 rfl)
  have hb2 := hide H.below
  clear ld B2
  go_wp2_with (first | ((with_reducible refine at_loadG 27 ?_); refine wl_loadG 27 rfl rfl ld2 ?_))
  refine (SH.out _ hb2.out).mono ?_
  rintro e w3 ⟨rfl, B3⟩
  have hb3 := hide (hb2.out.trans (B3.mono hb2.out.size))
  clear B3
  go_wp2_with fail
  go_ret
  exact ⟨rfl, hb3.out⟩
end Go.Proofs.YtkgegjnkkbgghaaDoor
