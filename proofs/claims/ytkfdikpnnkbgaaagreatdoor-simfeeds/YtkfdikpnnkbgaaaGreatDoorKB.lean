/-
  The reference's closed: mathematics, rows of bools, the walk. The reference's closed: the walk. The reference's Begin, Step, Accepts. The reference's Accepts and Step. At: AppendSeq, Collect of an iterator that makes no block; Reset. Reset; Clone of instructions; New.
-/
import Derived.Test.YtkfdikpnnkbgaaaGreatDoorSS
import Derived.Test.YtkfdikpnnkbgaaaGreatDoorSQ
namespace Go.Proofs.YtkfdikpnnkbgaaaGreatDoor
open Go.RowKit
set_option linter.unusedVariables false
set_option linter.unusedSimpArgs false

/-- What holds ahead of the round r: B stands between B0 and its closure, and has r at least. -/
structure CI (L : List Ins) (B0 : List Bool) (r : Nat) (B : List Bool) : Prop where
  len : B.length = L.length
  up : ∀ i : Nat, B0[i]? = some true → B[i]? = some true
  sub : ∀ m : Nat, B[m]? = some true → ∃ i : Nat, B0[i]? = some true ∧ Eps L i m
  cnt : r ≤ B.count true
/-- What holds within a round, ahead of its instruction k. -/
structure CJ (L : List Ins) (B0 : List Bool) (r : Nat) (more : Bool) (k : Nat) (B : List Bool) : Prop where
  ci : CI L B0 r B
  yes : more = true → r + 1 ≤ B.count true
  no : more = false → ∀ (i : Nat) (q : Ins), i < k → B[i]? = some true → L[i]? = some q → ((q.op = 2 ∨ q.op = 4) → B[q.x.toNat]? = some true) ∧ (q.op = 2 → B[q.y.toNat]? = some true)
theorem CI.start {L : List Ins} {B : List Bool} (h : B.length = L.length) : CI L B 0 B := ⟨h, fun _ h => h, fun m h => ⟨m, h, .refl m⟩, Nat.zero_le _⟩
theorem CJ.start {L : List Ins} {B0 B : List Bool} {r : Nat} (h : CI L B0 r B) : CJ L B0 r false 0 B := ⟨h, nofun, fun _ i q hi => absurd hi (Nat.not_lt_zero _)⟩
theorem count_set1 {B : List Bool} {z : Nat} (h : B[z]? = some false) : (B.set z true).count true = B.count true + 1 := by
  have hz := (List.getElem?_eq_some_iff.1 h).1
  have hv := (List.getElem?_eq_some_iff.1 h).2
  rw [List.count_set hz, hv]
  simp
theorem CJ.set {L : List Ins} {B0 B : List Bool} {r k : Nat} {more : Bool} (h : CJ L B0 r more k B) {z i : Nat} (hz : B[z]? = some false) (hi : B[i]? = some true) (e : Eps L i z) (k' : Nat) : CJ L B0 r true k' (B.set z true) := by
  have hzl := (List.getElem?_eq_some_iff.1 hz).1
  refine ⟨⟨by rw [List.length_set]; exact h.ci.len, fun m hm => ?_, fun m hm => ?_, ?_⟩, fun _ => ?_, nofun⟩
  · by_cases hmz : z = m
    · subst hmz; rw [List.getElem?_set_self hzl]
    · rw [List.getElem?_set_ne hmz]; exact h.ci.up m hm
  · by_cases hmz : z = m
    · subst hmz
      obtain ⟨j, hj, ej⟩ := h.ci.sub i hi
      exact ⟨j, hj, ej.trans e⟩
    · rw [List.getElem?_set_ne hmz] at hm; exact h.ci.sub m hm
  · rw [count_set1 hz]; have := h.ci.cnt; omega
  · rw [count_set1 hz]; have := h.ci.cnt; omega
theorem CJ.skip {L : List Ins} {B0 B : List Bool} {r k : Nat} {more : Bool} (h : CJ L B0 r more k B) (hk : ∀ q, B[k]? = some true → L[k]? = some q → ((q.op = 2 ∨ q.op = 4) → B[q.x.toNat]? = some true) ∧ (q.op = 2 → B[q.y.toNat]? = some true)) : CJ L B0 r more (k + 1) B :=
  ⟨h.ci, h.yes, fun hm i q hi hb hq => by
    by_cases e : i = k
    · subst e; exact hk q hb hq
    · exact h.no hm i q (by omega) hb hq⟩
theorem CJ.yes1 {L : List Ins} {B0 B : List Bool} {r k : Nat} (h : CJ L B0 r true k B) (k' : Nat) : CJ L B0 r true k' B := ⟨h.ci, h.yes, nofun⟩
theorem CJ.next {L : List Ins} {B0 B : List Bool} {r k : Nat} (h : CJ L B0 r true k B) : CI L B0 (r + 1) B := ⟨h.ci.len, h.ci.up, h.ci.sub, h.yes rfl⟩
/-- What is closed behind it. -/
def ClsB (L : List Ins) (B0 B : List Bool) : Prop := B.length = L.length ∧ ∀ m : Nat, B[m]? = some true ↔ ∃ i : Nat, B0[i]? = some true ∧ Eps L i m
theorem cls_of {L : List Ins} {B0 B : List Bool} {r : Nat} (h : CI L B0 r B) (hc : Clsd L (fun i => B[i]? = some true)) : ClsB L B0 B :=
  ⟨h.len, fun m => ⟨h.sub m, fun ⟨i, hi, e⟩ => hc.eps (h.up i hi) e⟩⟩
theorem CJ.done {L : List Ins} {B0 B : List Bool} {r : Nat} (h : CJ L B0 r false L.length B) : ClsB L B0 B :=
  cls_of h.ci (fun i q hi hq => h.no rfl i q (List.getElem?_eq_some_iff.1 hq).1 hi hq)
theorem CI.full {L : List Ins} {B0 B : List Bool} (h : CI L B0 L.length B) (hG : GoL L) : ClsB L B0 B := by
  have hall : ∀ m : Nat, m < L.length → B[m]? = some true := fun m hm => by
    have hc : B.count true = B.length := Nat.le_antisymm List.count_le_length (by have := h.cnt; have := h.len; omega)
    have ha := List.count_eq_length.1 hc
    have hmB : m < B.length := by rw [h.len]; exact hm
    rw [List.getElem?_eq_getElem hmB, ← ha _ (List.getElem_mem hmB)]
  refine cls_of h (fun i q hi hq => ⟨fun ho => hall _ ?_, fun ho => hall _ ?_⟩)
  · have := (hG q (List.mem_of_getElem? hq)).1 (by rcases ho with h | h; exact .inl h; exact .inr (.inl h)); omega
  · have := (hG q (List.mem_of_getElem? hq)).2 ho; omega

theorem info4 : ∃ i, Tryz.prog.info? 4 = some i ∧ i.zero = some (.bool false) ∧ i.size = 1 ∧ i.bytes = 1 := by
  have h : (Tryz.prog.info? 4).map (fun i => (i.zero, i.size, i.bytes)) = some (some (.bool false), 1, 1) := by kernel_rfl
  cases hi : Tryz.prog.info? 4 with
  | none => rw [hi] at h; cases h
  | some i =>
    rw [hi] at h
    simp only [Option.map_some, Option.some.injEq, Prod.mk.injEq] at h
    exact ⟨i, rfl, h.1, h.2.1, h.2.2⟩
/-- A row of bools that can be read. -/
def Bo (w : World) (v : Value) (B : List Bool) : Prop := ∃ g c cur t fr, v = .slice (some ⟨g, 0, none⟩) B.length c ∧ w.heap[g]? = some (.cells cur t fr) ∧ t = 4 ∧ ∀ (i : Nat) (b : Bool), B[i]? = some b → cur[i]? = some (Value.bool b)
theorem Bo.below {w w' : World} {v : Value} {B : List Bool} (h : Bo w v B) (hb : Below w.heap.size w w') : Bo w' v B := by
  obtain ⟨g, c, cur, t, fr, rfl, h1, h2⟩ := h
  exact ⟨g, c, cur, t, fr, rfl, (hb.block g (Array.getElem?_eq_some_iff.1 h1).1).trans h1, h2⟩
theorem owns_empty4 (w : World) : (w.alloc (.cells #[] 4)).ownsRow w.heap.size 4 1 (.slice (some ⟨w.heap.size, 0, none⟩) 0 0) 0 (([] : List Bool).map Value.bool) := by
  simpa using World.ownsRow_made (e := 4) (size := 1) w #[] 0 (Nat.le_refl _) (Nat.zero_le _) (by simp)
/-- A row of bools of one's own: its block's cells begin with them. -/
def Has4 (cur : Array Value) (B : List Bool) : Prop := ∀ (i : Nat) (b : Bool), B[i]? = some b → cur[i]? = some (Value.bool b)
theorem Has4.set {cur : Array Value} {B : List Bool} (h : Has4 cur B) {z : Nat} (b : Bool) : Has4 (cur.setIfInBounds z (.bool b)) (B.set z b) := fun i c hi => by
  by_cases e : z = i
  · subst e
    have hz : z < B.length := by have := (List.getElem?_eq_some_iff.1 hi).1; simpa using this
    rw [List.getElem?_set_self hz] at hi
    cases hi
    have hc := h z _ (List.getElem?_eq_getElem hz)
    rw [Array.getElem?_setIfInBounds_self, if_pos (Array.getElem?_eq_some_iff.1 hc).1]
  · rw [List.getElem?_set_ne e] at hi
    rw [Array.getElem?_setIfInBounds_ne e]
    exact h i c hi
theorem form4 {w : World} {base : Nat} {v : Value} {n : Nat} {B : List Bool} (h : w.ownsRow base 4 1 v n (B.map Value.bool)) (hn : n = B.length) (h0 : 0 < n) :
    ∃ g cap cur, v = .slice (some ⟨g, 0, none⟩) n cap ∧ base ≤ g ∧ w.heap[g]? = some (.cells cur 4 (0, 0)) ∧ Has4 cur B := by
  rcases h.2 with ⟨rfl, e⟩ | ⟨g, cap, cur, rfl, hb, hg, _, _, _, ht⟩
  · omega
  · refine ⟨g, cap, cur, rfl, hb, hg, fun i b hi => ?_⟩
    have hil := (List.getElem?_eq_some_iff.1 hi).1
    have h1 : (B.map Value.bool)[i]? = some (.bool b) := by rw [List.getElem?_map, hi]; rfl
    rw [← ht, List.getElem?_take_of_lt (by omega)] at h1
    simpa using h1
theorem bo_cells {w : World} {g : Nat} {cur : Array Value} {t : TypeId} {fr : Nat × Nat} {B : List Bool} (hg : w.heap[g]? = some (.cells cur t fr)) (h : Has4 cur B) : ∀ j u, (B.map Value.bool)[j]? = some u → w.cell? ((⟨g, 0, none⟩ : Addr).add j) = some u := fun j u hj => by
  rw [List.getElem?_map] at hj
  obtain ⟨b, hb, rfl⟩ := Option.map_eq_some_iff.1 hj
  rw [add_plain, cell_of_row w g _ _ t fr hg, Nat.zero_add]
  exact h j b hb
/-- An instruction's cells. -/
theorem HsI.cells {w : World} {ad : Option Addr} {L : List Ins} (h : HsI w (fun k => k < w.heap.size) ad L) (h0 : 0 < L.length) : ∃ b off, ad = some ⟨b, off, none⟩ ∧ b < w.heap.size ∧ ∀ w', Below w.heap.size w w' → ∀ k q, L[k]? = some q → w'.cell? ⟨b, off + k * 7, none⟩ = some (.int .i64 q.op) ∧ w'.cell? ⟨b, off + k * 7 + 5, none⟩ = some (.int .i64 q.x) ∧ w'.cell? ⟨b, off + k * 7 + 6, none⟩ = some (.int .i64 q.y) ∧ ∀ j u, (setA q.s)[j]? = some u → w'.cell? ⟨b, off + k * 7 + 1 + j, none⟩ = some u := by
  rcases h with rfl | ⟨b, off, cur, t, fr, rfl, hy, hb, hc⟩
  · cases h0
  · refine ⟨b, off, rfl, hy, fun w' hB k q hq => ?_⟩
    have hb' := (hB.block b hy).trans hb
    refine ⟨?_, ?_, ?_, fun j u hj => ?_⟩
    · rw [cell_of_row w' b _ _ t fr hb']; exact hc k q hq 0 _ rfl
    · rw [cell_of_row w' b _ _ t fr hb']; exact hc k q hq 5 _ rfl
    · rw [cell_of_row w' b _ _ t fr hb']; exact hc k q hq 6 _ rfl
    · rw [cell_of_row w' b _ _ t fr hb', Nat.add_assoc]
      have hj4 : j < 4 := by have := (Array.getElem?_eq_some_iff.1 hj).1; simpa [setA] using this
      refine hc k q hq (1 + j) u ?_
      rcases (show j = 0 ∨ j = 1 ∨ j = 2 ∨ j = 3 by omega) with rfl | rfl | rfl | rfl <;> exact hj
theorem st_own4 {w w' : World} {g : Nat} {cur : Array Value} (hb : Below w.heap.size w w') (hg : w.heap.size ≤ g) (hc : w'.heap[g]? = some (.cells cur 4 (0, 0))) : St Nope w w' [(true, g, 4, cur)] :=
  ⟨but_of_below hb Nope (fun k hk h => by omega), fun x hx => by rw [List.mem_singleton.1 hx]; exact hc, fun x hx _ h => by rw [List.mem_singleton.1 hx] at h; exact absurd h (by simp only; omega), by simp⟩
end Go.Proofs.YtkfdikpnnkbgaaaGreatDoor
namespace Go.Proofs.YtkfdikpnnkbgaaaGreatDoor
open Go.RowKit
set_option linter.unusedVariables false
set_option linter.unusedSimpArgs false

theorem CJ.skipq {L : List Ins} {B0 B : List Bool} {r k : Nat} {more : Bool} (h : CJ L B0 r more k B) {q : Ins} (hq : L[k]? = some q) (hx : (q.op = 2 ∨ q.op = 4) → B[q.x.toNat]? = some true) (hy : q.op = 2 → B[q.y.toNat]? = some true) : CJ L B0 r more (k + 1) B :=
  h.skip (fun q' _ hq' => by rw [hq] at hq'; cases hq'; exact ⟨hx, hy⟩)
set_option maxRecDepth 100000 in
set_option maxHeartbeats 8000000 in
theorem closed_any (ad : Option Addr) (c : Nat) (L : List Ins) (v : Value) (B : List Bool) (w : World) (hL : HsI w (fun k => k < w.heap.size) ad L) (hG : GoL L) (hv : Bo w v B) (hB : B.length = L.length) (h0 : 0 < L.length) (hlen : L.length ≤ 2048) :
    Calls Tryz.prog 50 #[.slice ad L.length c, v] w fun e w' => Below w.heap.size w w' ∧ ∃ v' B', e = .returned v' ∧ Bo w' v' B' ∧ ClsB L B B' := by
  obtain ⟨gv, cv, cur0, t0, fr0, rfl, hgv, hvc⟩ := hv
  obtain ⟨i0, hi, hz0, hz1, hz2⟩ := info4
  obtain ⟨b, off, rfl, hbl, hC⟩ := hL.cells h0
  have O := owns_empty4 w
  have hA : Below w.heap.size w (w.alloc (.cells #[] 4)) := (Below.refl _ w).alloc (Nat.le_refl _) _
  have hcc := bo_cells ((hA.block gv (Array.getElem?_eq_some_iff.1 hgv).1).trans hgv) hvc.2
  have hone : ∀ u ∈ B.map Value.bool, u.oneCell' = true := fun u hu => by
    obtain ⟨x, _, rfl⟩ := List.mem_map.1 hu; rfl
  replace hC := hide hC
  replace hG := hide hG
  replace O := hide O
  replace hcc := hide hcc
  replace hone := hide hone
  replace hA := hide hA
  clear hL hgv hvc
  obtain ⟨n, hn⟩ : ∃ n, L.length = n := ⟨_, rfl⟩
  have hB2 : B.length = n := hB.trans hn
  rw [hn] at h0 hlen
  rw [hn]
  have hm1 : (B.map Value.bool).length = n * 1 := by simp [hB2]
  rw [hB2]
  replace hn := hide hn
  replace hB := hide hB
  replace hm1 := hide hm1
  have hB2h := hide hB2
  clear hB2
  go_enter Tryz.func50, Tryz.ntmps50
  go_wp2_with (at_builtin; refine wpList_append_own _ rfl (.tmp 9) (.tmp 10) 49 rfl w.heap.size 4 i0 (.bool false) 1 1 Tryz.underlying49 hi hz0 hz1 hz2 rfl (by decide) _ 0 _ rfl O.out ⟨gv, 0, none⟩ n cv (B.map Value.bool) rfl hm1.out hcc.out hone.out (by unfold maxLen; omega) (by omega) (by simp) ?_; intro v1 w1 h1 h2 h3; clear h3; replace h1 := hide h1; replace h2 := hide h2)
  have h1' : w1.ownsRow w.heap.size 4 1 v1 n (B.map Value.bool) := by simpa using h1.out
  obtain ⟨g, cap, cur, rfl, hge, hgc, hh4⟩ := form4 h1' hB2h.out.symm h0
  have hbel : Below w.heap.size w w1 := (hA.out.grown h2.out (by simp) (fun k hk => by cases hk; exact Nat.le_refl _))
  have H0 : Hid (St Nope w w1 [(true, g, 4, cur)]) := st_own4 hbel hge hgc
  replace hh4 := hide hh4
  clear h1' h1 h2 hgc hbel O hcc hone hA hm1 hi hz0 hz1 hz2
  go_wp2_with fail
  go_loopw [6] (fun v wr => ∃ (r : Nat) (cur : Array Value) (B' : List Bool), v = .int .i64 (r : Int) ∧ r ≤ n ∧ Hid (St Nope w wr [(true, g, 4, cur)]) ∧ Hid (Has4 cur B') ∧ Hid (CI L B r B')) (fun v _ => n - (RowKit.intOf v).toNat)
  case atStart => exact ⟨0, cur, B, rfl, Nat.zero_le _, H0, hh4, CI.start hB.out⟩
  case round =>
    obtain ⟨r, cur, B1, rfl, hr, H1, hc4, hCI⟩ := hrel
    clear H0 hh4
    by_cases hlt : r < n
    · have i1 : (r : Int) < (n : Int) := by omega
      go_wp2_with fail
      go_loopw [7, 8] (fun m v wr => ∃ (k : Nat) (more : Bool) (cur : Array Value) (B' : List Bool), m = .bool more ∧ v = .int .i64 (k : Int) ∧ k ≤ n ∧ Hid (St Nope w wr [(true, g, 4, cur)]) ∧ Hid (Has4 cur B') ∧ Hid (CJ L B r more k B')) (fun _ v _ => n - (RowKit.intOf v).toNat)
      case atStart => exact ⟨0, false, cur, B1, rfl, rfl, Nat.zero_le _, H1, hc4, CJ.start hCI.out⟩
      case round =>
        obtain ⟨k, more, cur2, B2, rfl, rfl, hk, H2, hc2, hCJ⟩ := hrel
        clear H1 hc4
        by_cases hkl : k < n
        · have i2 : (k : Int) < (n : Int) := by omega
          obtain ⟨q, hq⟩ : ∃ q, L[k]? = some q := ⟨_, List.getElem?_eq_getElem (by rw [hn.out]; exact hkl)⟩
          obtain ⟨bk, hbk⟩ : ∃ bk, B2[k]? = some bk := ⟨_, List.getElem?_eq_getElem (by rw [hCJ.out.ci.len, hn.out]; exact hkl)⟩
          have ck := H2.out.cell 0 k rfl (hc2.out k bk hbk)
          have hgq := hG.out q (List.mem_of_getElem? hq)
          obtain ⟨cOp, cX, cY, _⟩ := hC.out _ H2.out.below k q hq
          rw [hn.out] at hgq
          have hat : ∀ (Bz : List Bool), Bz.length = n → ∀ z, z < n → ∃ bz, Bz[z]? = some bz := fun Bz hl z hz => ⟨_, List.getElem?_eq_getElem (by omega)⟩
          have hB2n : B2.length = n := hCJ.out.ci.len.trans hn.out
          replace hat := hide hat
          replace hB2n := hide hB2n
          have hqH := hide hq
          have hbkH := hide hbk
          clear hq hbk
          have hgq := hide hgq
          cases bk with
          | false =>
            go_wp2_with fail
            go_roundw
            case rel => exact ⟨k + 1, more, cur2, B2, rfl, by go_num, by omega, H2, hc2, hCJ.out.skip (fun q hb => by rw [hbkH.out] at hb; cases hb)⟩
            case measure => simp [RowKit.intOf]; omega
          | true =>
            by_cases h2 : q.op = 2
            · obtain ⟨xx, hxx⟩ : ∃ xx : Nat, q.x = (xx : Int) := ⟨q.x.toNat, by have := (hgq.out.1 (.inl h2)).1; omega⟩
              obtain ⟨yy, hyy⟩ : ∃ yy : Nat, q.y = (yy : Int) := ⟨q.y.toNat, by have := (hgq.out.2 h2).1; omega⟩
              have hx1 : xx < n := by have := (hgq.out.1 (.inl h2)).2; omega
              have hy1 : yy < n := by have := (hgq.out.2 h2).2; omega
              have j1 : (xx : Int) < (n : Int) := by omega
              have j2 : (yy : Int) < (n : Int) := by omega
              have eX : Eps L k xx := by have := (Eps.refl (L := L) k).goX hqH.out (.inl h2); rw [hxx] at this; simpa using this
              have eY : Eps L k yy := by have := (Eps.refl (L := L) k).goY hqH.out h2; rw [hyy] at this; simpa using this
              obtain ⟨bx, hbx⟩ := hat.out B2 hB2n.out xx hx1
              rw [h2] at cOp
              rw [hxx] at cX
              rw [hyy] at cY
              have cx := H2.out.cell 0 xx rfl (hc2.out xx bx hbx)
              have hszx : xx < cur2.size := (Array.getElem?_eq_some_iff.1 (hc2.out xx bx hbx)).1
              replace eX := hide eX
              replace eY := hide eY
              replace hxx := hide hxx
              replace hyy := hide hyy
              replace h2 := hide h2
              have hbxH := hide hbx
              clear hbx hgq
              cases bx with
              | true =>
                obtain ⟨bY, hby⟩ := hat.out B2 hB2n.out yy hy1
                have cy := H2.out.cell 0 yy rfl (hc2.out yy bY hby)
                have hszy : yy < cur2.size := (Array.getElem?_eq_some_iff.1 (hc2.out yy bY hby)).1
                have hbyH := hide hby
                clear hby
                cases bY with
                | true =>
                  go_wp2_with fail
                  go_roundw
                  case rel => exact ⟨k + 1, more, cur2, B2, rfl, by go_num, by omega, H2, hc2, hCJ.out.skipq hqH.out (fun _ => by rw [hxx.out]; exact hbxH.out) (fun _ => by rw [hyy.out]; exact hbyH.out)⟩
                  case measure => simp [RowKit.intOf]; omega
                | false =>
                  go_wp2_with (with_reducible refine at_store 4 ?_; refine wl_store1 0 yy 4 (v := .bool true) H2.out rfl rfl rfl hszy one4 rfl ?_; intro w5 H5; replace H5 := hide H5)
                  go_roundw
                  case rel => exact ⟨k + 1, true, _, _, rfl, by go_num, by omega, H5, hc2.out.set true, hCJ.out.set hbyH.out hbkH.out eY.out (k + 1)⟩
                  case measure => simp [RowKit.intOf]; omega
              | false =>
                obtain ⟨bY, hby⟩ := hat.out (B2.set xx true) (by rw [List.length_set]; exact hB2n.out) yy hy1
                have hc5 : Has4 (cur2.setIfInBounds xx (.bool true)) (B2.set xx true) := hc2.out.set true
                have hJ5 := hCJ.out.set hbxH.out hbkH.out eX.out k
                have hszy : yy < (cur2.setIfInBounds xx (.bool true)).size := (Array.getElem?_eq_some_iff.1 (hc5 yy bY hby)).1
                have hbyc := hide (hc5 yy bY hby)
                have hbyH := hide hby
                have hk5 : Hid ((B2.set xx true)[k]? = some true) := by
                  show _ = _
                  by_cases e : xx = k
                  · subst e; rw [List.getElem?_set_self (by have := hB2n.out; omega)]
                  · rw [List.getElem?_set_ne e]; exact hbkH.out
                replace hc5 := hide hc5
                replace hJ5 := hide hJ5
                clear hby
                cases bY with
                | true =>
                  go_wp2_with (with_reducible refine at_store 4 ?_; refine wl_store1 0 xx 4 (v := .bool true) H2.out rfl rfl rfl hszx one4 rfl ?_; intro w5 H5; (have cy := H5.cell 0 yy rfl hbyc.out); (obtain ⟨cOp5, cX5, cY5, _⟩ := hC.out _ H5.below k q hqH.out); rw [h2.out] at cOp5; rw [hxx.out] at cX5; rw [hyy.out] at cY5; replace H5 := hide H5)
                  go_roundw
                  case rel => exact ⟨k + 1, true, _, _, rfl, by go_num, by omega, H5, hc5, hJ5.out.yes1 (k + 1)⟩
                  case measure => simp [RowKit.intOf]; omega
                | false =>
                  go_wp2_with (first | (with_reducible refine at_store 4 ?_; refine wl_store1 0 xx 4 (v := .bool true) H2.out rfl rfl rfl hszx one4 rfl ?_; intro w5 H5; (have cy := H5.cell 0 yy rfl hbyc.out); (obtain ⟨cOp5, cX5, cY5, _⟩ := hC.out _ H5.below k q hqH.out); rw [h2.out] at cOp5; rw [hxx.out] at cX5; rw [hyy.out] at cY5; replace H5 := hide H5) | (with_reducible refine at_store 4 ?_; refine wl_store1 0 yy 4 (v := .bool true) H5.out rfl rfl rfl hszy one4 rfl ?_; intro w6 H6; replace H6 := hide H6))
                  go_roundw
                  case rel => exact ⟨k + 1, true, _, _, rfl, by go_num, by omega, H6, hc5.out.set true, hJ5.out.set hbyH.out hk5.out eY.out (k + 1)⟩
                  case measure => simp [RowKit.intOf]; omega
            · have n2 : (q.op == 2) = false := by simpa using h2
              by_cases h4 : q.op = 4
              · obtain ⟨xx, hxx⟩ : ∃ xx : Nat, q.x = (xx : Int) := ⟨q.x.toNat, by have := (hgq.out.1 (.inr (.inl h4))).1; omega⟩
                have hx1 : xx < n := by have := (hgq.out.1 (.inr (.inl h4))).2; omega
                have j1 : (xx : Int) < (n : Int) := by omega
                have eX : Eps L k xx := by have := (Eps.refl (L := L) k).goX hqH.out (.inr h4); rw [hxx] at this; simpa using this
                obtain ⟨bx, hbx⟩ := hat.out B2 hB2n.out xx hx1
                rw [h4] at cOp
                rw [hxx] at cX
                have cx := H2.out.cell 0 xx rfl (hc2.out xx bx hbx)
                have hszx : xx < cur2.size := (Array.getElem?_eq_some_iff.1 (hc2.out xx bx hbx)).1
                replace eX := hide eX
                replace hxx := hide hxx
                have h4H := hide h4
                replace h2 := hide h2
                have hbxH := hide hbx
                clear hbx hgq h4 n2
                cases bx with
                | true =>
                  go_wp2_with fail
                  go_roundw
                  case rel => exact ⟨k + 1, more, cur2, B2, rfl, by go_num, by omega, H2, hc2, hCJ.out.skipq hqH.out (fun _ => by rw [hxx.out]; exact hbxH.out) (fun h => absurd h h2.out)⟩
                  case measure => simp [RowKit.intOf]; omega
                | false =>
                  have hJ5 := hide (hCJ.out.set hbxH.out hbkH.out eX.out (k + 1))
                  have hc5 := hide (hc2.out.set (z := xx) true)
                  go_wp2_with (with_reducible refine at_store 4 ?_; refine wl_store1 0 xx 4 (v := .bool true) H2.out rfl rfl rfl hszx one4 rfl ?_; intro w5 H5; (obtain ⟨cOp5, cX5, cY5, _⟩ := hC.out _ H5.below k q hqH.out); rw [h4H.out] at cOp5; rw [hxx.out] at cX5; replace H5 := hide H5)
                  go_roundw
                  case rel => exact ⟨k + 1, true, _, _, rfl, by go_num, by omega, H5, hc5, hJ5.out⟩
                  case measure => simp [RowKit.intOf]; omega
              · have n4 : (q.op == 4) = false := by simpa using h4
                go_wp2_with fail
                go_roundw
                case rel => exact ⟨k + 1, more, cur2, B2, rfl, by go_num, by omega, H2, hc2, hCJ.out.skipq hqH.out (fun h => (h.elim h2 h4).elim) (fun h => absurd h h2)⟩
                case measure => simp [RowKit.intOf]; omega
        · obtain rfl : k = n := by omega
          cases more with
          | false =>
            have hD := hide (hCJ.out)
            go_wp2_with fail
            go_ret
            exact ⟨H2.out.below, _, B2, rfl, ⟨g, cap, cur2, 4, (0, 0), congrArg (fun m : Nat => Value.slice (some ⟨g, 0, none⟩) m cap) (hD.out.ci.len.trans hn.out).symm, H2.out.get 0 rfl, rfl, hc2.out⟩, by rw [← hn.out] at hD; exact hD.out.done⟩
          | true =>
            go_wp2_with fail
            go_roundw
            case rel => exact ⟨r + 1, cur2, B2, by go_num, by omega, H2, hc2, hCJ.out.next⟩
            case measure => simp [RowKit.intOf]; omega
    · obtain rfl : r = n := by omega
      have hF : Hid (ClsB L B B1) := CI.full (by rw [hn.out]; exact hCI.out) hG.out
      go_wp2_with fail
      go_ret
      exact ⟨H1.out.below, _, B1, rfl, ⟨g, cap, cur, 4, (0, 0), congrArg (fun m : Nat => Value.slice (some ⟨g, 0, none⟩) m cap) (hCI.out.len.trans hn.out).symm, H1.out.get 0 rfl, rfl, hc4.out⟩, hF.out⟩
end Go.Proofs.YtkfdikpnnkbgaaaGreatDoor
namespace Go.Proofs.YtkfdikpnnkbgaaaGreatDoor
open Go.RowKit
set_option linter.unusedVariables false
set_option linter.unusedSimpArgs false

/-- Bools as cells. -/
def bolA (B : List Bool) : Array Value := (B.map Value.bool).toArray
theorem has4_bol (B : List Bool) : Has4 (bolA B) B := fun i b h => by simp [bolA, h]
theorem bolA_size (B : List Bool) : (bolA B).size = B.length := by simp [bolA]
theorem bolA_set (B : List Bool) (k : Nat) (b : Bool) : (bolA B).setIfInBounds k (.bool b) = bolA (B.set k b) := by
  simp [bolA, List.map_set]
theorem made4 (n : Nat) : madeCells (Value.bool false).cells (n * 1) = bolA (List.replicate n false) := by
  apply Array.ext'
  apply List.ext_getElem?
  intro j
  by_cases hj : j < n
  · simp [madeCells, hj, bolA, Value.cells, Nat.mod_one]
  · rw [List.getElem?_eq_none (by simp [madeCells]; omega), List.getElem?_eq_none (by simp [bolA]; omega)]
section
variable {S : Nat → Prop} {w0 w w' : World} {L : List Ent} {ops : Array Oper} {rest : List Oper} {o : Oper} {a : Act} {Q : Exit → Act → World → Prop} {K : Act → World → Prop} {E : Prop} {dst : Option Nat} {x y : Operand} {ty : TypeId} {pos : String} {after : Array Edge}
theorem wl_make4 (H : St S w0 w L) {n : Nat} (hn : n ≤ 1000000) (hx : a.eval x = .int .i64 (n : Int)) (hy : a.eval y = .int .i64 (n : Int)) (k : ∀ g w2, St S w0 w2 ((true, g, 4, bolA (List.replicate n false)) :: L) → w0.heap.size ≤ g → w.heap.size ≤ g → wpList Tryz.prog ops Q rest (a.put dst (.slice (some ⟨g, 0, none⟩) n n)) w2) :
    wpList Tryz.prog ops Q (⟨dst, .makeSlice 49 x y, ty, pos, after, none⟩ :: rest) a w := by
  obtain ⟨i, hi, hz, hs, hb⟩ := info4
  have hr := run_make (P := Tryz.prog) w 49 4 i (.bool false) Tryz.underlying49 hi hz .i64 .i64 (n : Int) (n : Int) (by omega) (Int.le_refl _) (by rw [hb]; omega) (by omega)
  have H2 := H.alloc 4 (bolA (List.replicate n false))
  rw [← made4 n] at H2
  refine wl_val (w' := w.alloc (.cells (madeCells (Value.bool false).cells (n * 1)) 4)) ?_ (k _ _ (by rw [← made4 n]; exact H2) H.but.size (Nat.le_refl _))
  unfold execOp
  simp only [hx, hy, Sem.run_bind, hr, Result.andThen_ok, Sem.run_pure, Int.toNat_natCast, hs]
end
theorem rep_false {n i : Nat} : (List.replicate n false)[i]? ≠ some true := by
  intro h
  rw [List.getElem?_replicate] at h
  split at h <;> simp at h
/-- Where a row says that a program stands. -/
def Stn (L : List Ins) (S : Sn) (B : List Bool) : Prop := B.length = L.length ∧ ∀ m : Nat, B[m]? = some true ↔ S m
theorem stn_begin {L : List Ins} {B : List Bool} {n : Nat} (hn : L.length = n) (h0 : 0 < n) (h : ClsB L ((List.replicate n false).set 0 true) B) : Stn L (Eps L 0) B := by
  refine ⟨h.1, fun m => (h.2 m).trans ⟨?_, fun e => ⟨0, ?_, e⟩⟩⟩
  · rintro ⟨i, hi, e⟩
    by_cases hi0 : 0 = i
    · subst hi0; exact e
    · rw [List.getElem?_set_ne hi0] at hi; exact absurd hi rep_false
  · rw [List.getElem?_set_self (by simpa using h0)]
set_option maxRecDepth 100000 in
set_option maxHeartbeats 4000000 in
theorem rbegin_any (ad : Option Addr) (c : Nat) (L : List Ins) (w : World) (hL : HsI w (fun k => k < w.heap.size) ad L) (hG : GoL L) (h0 : 0 < L.length) (hlen : L.length ≤ 2048) :
    Calls Tryz.prog 18 #[.slice ad L.length c] w fun e w' => Below w.heap.size w w' ∧ ∃ v' B', e = .returned v' ∧ Bo w' v' B' ∧ Stn L (Eps L 0) B' := by
  obtain ⟨n, hn⟩ : ∃ n, L.length = n := ⟨_, rfl⟩
  have hLh := hide hL
  clear hL
  replace hG := hide hG
  have H := St.start Nope w
  have h0n : 0 < n := by omega
  have i1 : (0 : Int) < (n : Int) := by omega
  have hsz : 0 < (bolA (List.replicate n false)).size := by rw [bolA_size, List.length_replicate]; exact h0n
  have hnH := hide hn
  have hlenh := hide hlen
  have hln : n ≤ 1000000 := by omega
  have h0L := hide h0
  have hcall : Hid (∀ g w2, St Nope w w2 [(true, g, 4, (bolA (List.replicate n false)).setIfInBounds 0 (.bool true))] → Calls Tryz.prog 50 #[.slice ad n c, .slice (some ⟨g, 0, none⟩) n n] w2 fun e w' => Below w.heap.size w w' ∧ ∃ v' B', e = .returned v' ∧ Bo w' v' B' ∧ Stn L (Eps L 0) B') := fun g w2 H2 => by
    have hb := H2.below
    rw [← hn]
    refine (closed_any ad c L (.slice (some ⟨g, 0, none⟩) L.length L.length) ((List.replicate n false).set 0 true) w2 (hLh.out.kept (fun k _ hk => hb.block k hk) (fun k hk h => by have := hb.size; omega)) hG.out ⟨g, L.length, _, 4, (0, 0), by rw [List.length_set, List.length_replicate, hn], H2.get 0 rfl, rfl, (has4_bol _).set true⟩ (by rw [List.length_set, List.length_replicate, hn]) h0 hlen).mono ?_
    rintro e w3 ⟨B3, v', B', rfl, hBo, hC⟩
    exact ⟨hb.trans (B3.mono hb.size), v', B', rfl, hBo, stn_begin hn h0n hC⟩
  rw [hn]
  clear hn hlen h0
  go_enter Tryz.func18, Tryz.ntmps18
  go_wp2_with (first | (with_reducible refine at_make 49 ?_; refine wl_make4 H hln rfl rfl ?_; clear H; intro g w1 H q1 q2) | (with_reducible refine at_store 4 ?_; refine wl_store1 0 0 4 (v := .bool true) H rfl rfl rfl hsz one4 rfl ?_; clear H; intro w2 H))
  refine (hcall.out _ _ H).mono ?_
  rintro e w3 ⟨B3, v', B', rfl, hBo, hC⟩
  go_wp2_with fail
  go_ret
  exact ⟨B3, v', B', rfl, hBo, hC⟩
end Go.Proofs.YtkfdikpnnkbgaaaGreatDoor
namespace Go.Proofs.YtkfdikpnnkbgaaaGreatDoor
open Go.RowKit
set_option linter.unusedVariables false
set_option linter.unusedSimpArgs false

set_option maxRecDepth 100000 in
set_option maxHeartbeats 4000000 in
theorem racc_any (ad : Option Addr) (c : Nat) (L : List Ins) (S : Sn) (B : List Bool) (v : Value) (w : World) (hL : HsI w (fun k => k < w.heap.size) ad L) (hv : Bo w v B) (hS : Stn L S B) (h0 : 0 < L.length) (hlen : L.length ≤ 2048) :
    Calls Tryz.prog 23 #[.slice ad L.length c, v] w fun e w' => Below w.heap.size w w' ∧ ∃ x : Bool, e = .returned (.bool x) ∧ (x = true ↔ accS L S) := by
  obtain ⟨gv, cv, cur, t, fr, rfl, hgv, hvc⟩ := hv
  obtain ⟨b, off, rfl, hbl, hC⟩ := hL.cells h0
  have hgl := (Array.getElem?_eq_some_iff.1 hgv).1
  have hcB : Hid (∀ w', Below w.heap.size w w' → ∀ (i : Nat) (x : Bool), B[i]? = some x → w'.cell? ⟨gv, i, none⟩ = some (.bool x)) := fun w' hb i x hi => by
    rw [cell_of_row w' gv _ _ t fr ((hb.block gv hgl).trans hgv)]; exact hvc.2 i x hi
  replace hC := hide hC
  obtain ⟨n, hn⟩ : ∃ n, L.length = n := ⟨_, rfl⟩
  have hBn : B.length = n := hS.1.trans hn
  rw [hBn, hn]
  rw [hn] at hlen h0
  replace hn := hide hn
  replace hBn := hide hBn
  replace hS := hide hS
  clear hL hgv hvc hgl
  go_enter Tryz.func23, Tryz.ntmps23
  go_wp2_with fail
  go_loopw [5] (fun v wr => ∃ k : Nat, v = .int .i64 (k : Int) ∧ k ≤ n ∧ Hid (Below w.heap.size w wr) ∧ Hid (∀ i q, i < k → S i → L[i]? = some q → q.op ≠ 3)) (fun v _ => n - (RowKit.intOf v).toNat)
  case atStart => exact ⟨0, rfl, Nat.zero_le _, Below.refl _ _, fun i q hi => absurd hi (Nat.not_lt_zero _)⟩
  case round =>
    obtain ⟨k, rfl, hk, hBl, hno⟩ := hrel
    by_cases hlt : k < n
    · have i1 : (k : Int) < (n : Int) := by omega
      obtain ⟨q, hq⟩ : ∃ q, L[k]? = some q := ⟨_, List.getElem?_eq_getElem (by rw [hn.out]; exact hlt)⟩
      obtain ⟨bk, hbk⟩ : ∃ bk, B[k]? = some bk := ⟨_, List.getElem?_eq_getElem (by rw [hBn.out]; exact hlt)⟩
      have ck := hcB.out _ hBl.out k bk hbk
      obtain ⟨cOp, _, _, _⟩ := hC.out _ hBl.out k q hq
      have hSk : Hid (bk = true ↔ S k) := by
        show _ ↔ _
        rw [← hS.out.2 k, hbk, Option.some.injEq]
      replace hq := hide hq
      clear hbk
      cases bk with
      | false =>
        have hno2 : Hid (∀ i q, i < k + 1 → S i → L[i]? = some q → q.op ≠ 3) := fun i q' hi hs hq' => by
          by_cases e : i = k
          · subst e; exact absurd (hSk.out.2 hs) (by simp)
          · exact hno.out i q' (by omega) hs hq'
        go_wp2_with fail
        go_roundw
        case rel => exact ⟨k + 1, by go_num, by omega, hBl, hno2⟩
        case measure => simp [RowKit.intOf]; omega
      | true =>
        by_cases h3 : q.op = 3
        · rw [h3] at cOp
          have hF : Hid (accS L S) := ⟨k, q, hSk.out.1 rfl, hq.out, h3⟩
          replace h3 := hide h3
          go_wp2_with fail
          go_ret
          exact ⟨hBl.out, .inr ⟨rfl, hF.out⟩⟩
        · have n3 : (q.op == 3) = false := by simpa using h3
          have hno2 : Hid (∀ i q, i < k + 1 → S i → L[i]? = some q → q.op ≠ 3) := fun i q' hi hs hq' => by
            by_cases e : i = k
            · subst e; rw [hq.out] at hq'; cases hq'; exact h3
            · exact hno.out i q' (by omega) hs hq'
          replace h3 := hide h3
          go_wp2_with fail
          go_roundw
          case rel => exact ⟨k + 1, by go_num, by omega, hBl, hno2⟩
          case measure => simp [RowKit.intOf]; omega
    · obtain rfl : k = n := by omega
      have hF : Hid (¬ accS L S) := fun ⟨i, q, h1, h2, h3⟩ => hno.out i q (by rw [← hn.out]; exact (List.getElem?_eq_some_iff.1 h2).1) h1 h2 h3
      go_wp2_with fail
      go_ret
      exact ⟨hBl.out, false, rfl, iff_of_false (by simp) hF.out⟩

/-- What Step has found ahead of the instruction k. -/
def StI (L : List Ins) (S : Sn) (b k : Nat) (D : List Bool) : Prop := D.length = L.length ∧ ∀ m : Nat, D[m]? = some true ↔ ∃ (i : Nat) (q : Ins), i < k ∧ S i ∧ L[i]? = some q ∧ q.op = 1 ∧ inS q.s b = true ∧ q.x.toNat = m
theorem StI.start {L : List Ins} {S : Sn} {b n : Nat} (hn : L.length = n) : StI L S b 0 (List.replicate n false) :=
  ⟨by rw [List.length_replicate, hn], fun m => ⟨fun h => absurd h rep_false, fun ⟨i, q, hi, _⟩ => absurd hi (Nat.not_lt_zero _)⟩⟩
theorem StI.skip {L : List Ins} {S : Sn} {b k : Nat} {D : List Bool} (h : StI L S b k D) (hk : ∀ q, S k → L[k]? = some q → q.op = 1 → inS q.s b = true → False) : StI L S b (k + 1) D :=
  ⟨h.1, fun m => (h.2 m).trans ⟨fun ⟨i, q, hi, r⟩ => ⟨i, q, by omega, r⟩, fun ⟨i, q, hi, h1, h2, h3, h4, h5⟩ => by
    by_cases e : i = k
    · subst e; exact (hk q h1 h2 h3 h4).elim
    · exact ⟨i, q, by omega, h1, h2, h3, h4, h5⟩⟩⟩
theorem StI.put {L : List Ins} {S : Sn} {b k : Nat} {D : List Bool} (h : StI L S b k D) {q : Ins} {z : Nat} (h1 : S k) (h2 : L[k]? = some q) (h3 : q.op = 1) (h4 : inS q.s b = true) (h5 : q.x = (z : Int)) (hz : z < D.length) : StI L S b (k + 1) (D.set z true) :=
  ⟨by rw [List.length_set]; exact h.1, fun m => by
    have h6 : q.x.toNat = z := by rw [h5]; simp
    by_cases e : z = m
    · subst e
      rw [List.getElem?_set_self hz]
      exact iff_of_true rfl ⟨k, q, by omega, h1, h2, h3, h4, h6⟩
    · rw [List.getElem?_set_ne e]
      refine (h.2 m).trans ⟨fun ⟨i, q, hi, r⟩ => ⟨i, q, by omega, r⟩, fun ⟨i, q', hi, r1, r2, r3, r4, r5⟩ => ?_⟩
      by_cases e2 : i = k
      · subst e2; rw [h2] at r2; cases r2; omega
      · exact ⟨i, q', by omega, r1, r2, r3, r4, r5⟩⟩
theorem StI.done {L : List Ins} {S : Sn} {b : Nat} {D B : List Bool} (h : StI L S b L.length D) (hc : ClsB L D B) : Stn L (nxt L S b) B :=
  ⟨hc.1, fun m => (hc.2 m).trans ⟨fun ⟨j, hj, e⟩ => by
    obtain ⟨i, q, _, h1, h2, h3, h4, h5⟩ := (h.2 j).1 hj
    exact ⟨i, q, h1, h2, h3, h4, by rw [h5]; exact e⟩, fun ⟨i, q, h1, h2, h3, h4, h5⟩ => ⟨q.x.toNat, (h.2 _).2 ⟨i, q, (List.getElem?_eq_some_iff.1 h2).1, h1, h2, h3, h4, rfl⟩, h5⟩⟩⟩
set_option maxRecDepth 100000 in
set_option maxHeartbeats 8000000 in
theorem rstep_any (ad : Option Addr) (c : Nat) (L : List Ins) (S : Sn) (B : List Bool) (v : Value) (by' : Nat) (hby : by' < 256) (w : World) (hL : HsI w (fun k => k < w.heap.size) ad L) (hG : GoL L) (hok : ∀ q ∈ L, OkS q.s) (hv : Bo w v B) (hS : Stn L S B) (h0 : 0 < L.length) (hlen : L.length ≤ 2048) :
    Calls Tryz.prog 26 #[.slice ad L.length c, v, .int .u8 (by' : Int)] w fun e w' => Below w.heap.size w w' ∧ ∃ v' B', e = .returned v' ∧ Bo w' v' B' ∧ Stn L (nxt L S by') B' := by
  obtain ⟨n, hn⟩ : ∃ n, L.length = n := ⟨_, rfl⟩
  have hcall : Hid (∀ g D w2, St Nope w w2 [(true, g, 4, bolA D)] → StI L S by' L.length D → Calls Tryz.prog 50 #[.slice ad n c, .slice (some ⟨g, 0, none⟩) n n] w2 fun e w' => Below w.heap.size w w' ∧ ∃ v' B', e = .returned v' ∧ Bo w' v' B' ∧ Stn L (nxt L S by') B') := fun g D w2 H2 hD => by
    have hb := H2.below
    rw [← hn]
    refine (closed_any ad c L (.slice (some ⟨g, 0, none⟩) L.length L.length) D w2 (hL.kept (fun k _ hk => hb.block k hk) (fun k hk h => by have := hb.size; omega)) hG ⟨g, L.length, _, 4, (0, 0), by rw [hD.1], H2.get 0 rfl, rfl, has4_bol _⟩ hD.1 h0 hlen).mono ?_
    rintro e w3 ⟨B3, v', B', rfl, hBo, hC⟩
    exact ⟨hb.trans (B3.mono hb.size), v', B', rfl, hBo, hD.done hC⟩
  obtain ⟨gv, cv, cur, t, fr, rfl, hgv, hvc⟩ := hv
  obtain ⟨b, off, rfl, hbl, hC⟩ := hL.cells h0
  have hgl := (Array.getElem?_eq_some_iff.1 hgv).1
  have hcB : Hid (∀ w', Below w.heap.size w w' → ∀ (i : Nat) (x : Bool), B[i]? = some x → w'.cell? ⟨gv, i, none⟩ = some (.bool x)) := fun w' hb i x hi => by
    rw [cell_of_row w' gv _ _ t fr ((hb.block gv hgl).trans hgv)]; exact hvc.2 i x hi
  replace hC := hide hC
  have hBn : B.length = n := hS.1.trans hn
  have H := St.start Nope w
  rw [hBn, hn]
  rw [hn] at hlen h0
  have hSt := hide (StI.start (S := S) (b := by') hn)
  have hln : n ≤ 1000000 := by omega
  replace hn := hide hn
  replace hBn := hide hBn
  replace hS := hide hS
  replace hG := hide hG
  replace hok := hide hok
  clear hL hgv hvc hgl
  go_enter Tryz.func26, Tryz.ntmps26
  go_wp2_with (first | (with_reducible refine at_make 49 ?_; refine wl_make4 H hln rfl rfl ?_; clear H; intro g w1 H q1 q2; replace H := hide H))
  go_loopw [8] (fun v wr => ∃ (k : Nat) (D : List Bool), v = .int .i64 (k : Int) ∧ k ≤ n ∧ Hid (St Nope w wr [(true, g, 4, bolA D)]) ∧ Hid (StI L S by' k D)) (fun v _ => n - (RowKit.intOf v).toNat)
  case atStart => exact ⟨0, _, rfl, Nat.zero_le _, H, hSt⟩
  case round =>
    obtain ⟨k, D, rfl, hk, H2, hI⟩ := hrel
    clear H hSt
    by_cases hlt : k < n
    · have i1 : (k : Int) < (n : Int) := by omega
      obtain ⟨q, hq⟩ : ∃ q, L[k]? = some q := ⟨_, List.getElem?_eq_getElem (by rw [hn.out]; exact hlt)⟩
      obtain ⟨bk, hbk⟩ : ∃ bk, B[k]? = some bk := ⟨_, List.getElem?_eq_getElem (by rw [hBn.out]; exact hlt)⟩
      have ck := hcB.out _ H2.out.below k bk hbk
      obtain ⟨cOp, cX, _, cS⟩ := hC.out _ H2.out.below k q hq
      have hSk : Hid (bk = true ↔ S k) := by
        show _ ↔ _
        rw [← hS.out.2 k, hbk, Option.some.injEq]
      have hqm := List.mem_of_getElem? hq
      replace hq := hide hq
      clear hbk
      cases bk with
      | false =>
        have hI2 := hide (hI.out.skip (fun q h => absurd (hSk.out.2 h) (by simp)))
        go_wp2_with fail
        go_roundw
        case rel => exact ⟨k + 1, D, by go_num, by omega, H2, hI2⟩
        case measure => simp [RowKit.intOf]; omega
      | true =>
        by_cases h1 : q.op = 1
        · obtain ⟨xx, hxx⟩ : ∃ xx : Nat, q.x = (xx : Int) := ⟨q.x.toNat, by have := ((hG.out q hqm).1 (.inr (.inr h1))).1; omega⟩
          have hx1 : xx < n := by have := ((hG.out q hqm).1 (.inr (.inr h1))).2; rw [hn.out] at this; omega
          have j1 : (xx : Int) < (n : Int) := by omega
          have hDn : D.length = n := hI.out.1.trans hn.out
          have hszx : xx < (bolA D).size := by rw [bolA_size]; omega
          have cS0 := cS 0 _ rfl
          have cS1 := cS 1 _ rfl
          have cS2 := cS 2 _ rfl
          have cS3 := cS 3 _ rfl
          rw [Nat.add_zero] at cS0
          have hh := hide (has56 q.s (hok.out q hqm) by' hby)
          rw [h1] at cOp
          rw [hxx] at cX
          replace h1 := hide h1
          replace hxx := hide hxx
          replace hDn := hide hDn
          clear cS hqm
          generalize hin : inS q.s by' = yes at *
          replace hin := hide hin
          cases yes with
          | false =>
            have hI2 := hide (hI.out.skip (fun q' _ hq' _ hs => by rw [hq.out] at hq'; cases hq'; rw [hin.out] at hs; cases hs))
            go_wp2_with fail
            refine (hh.out _).mono ?_
            rintro e w4 ⟨rfl, B4⟩
            have H4 := hide (H2.out.call B4 (Nat.le_refl _))
            clear B4
            go_wp2_with fail
            go_roundw
            case rel => exact ⟨k + 1, D, by go_num, by omega, H4, hI2⟩
            case measure => simp [RowKit.intOf]; omega
          | true =>
            have hI2 := hide (hI.out.put (hSk.out.1 rfl) hq.out h1.out hin.out hxx.out (by rw [hDn.out]; exact hx1))
            go_wp2_with fail
            refine (hh.out _).mono ?_
            rintro e w4 ⟨rfl, B4⟩
            have H4 := hide (H2.out.call B4 (Nat.le_refl _))
            obtain ⟨cOp4, cX4, _, _⟩ := hC.out _ H4.out.below k q hq.out
            rw [hxx.out] at cX4
            clear B4
            go_wp2_with (first | (with_reducible refine at_store 4 ?_; refine wl_store1 0 xx 4 (v := .bool true) H4.out rfl rfl rfl hszx one4 rfl ?_; intro w5 H5; replace H5 := hide H5))
            go_roundw
            case rel => exact ⟨k + 1, D.set xx true, by go_num, by omega, by rw [← bolA_set]; exact H5, hI2⟩
            case measure => simp [RowKit.intOf]; omega
        · have n1 : (q.op == 1) = false := by simpa using h1
          have hI2 := hide (hI.out.skip (fun q' _ hq' ho _ => by rw [hq.out] at hq'; cases hq'; exact h1 ho))
          replace h1 := hide h1
          go_wp2_with fail
          go_roundw
          case rel => exact ⟨k + 1, D, by go_num, by omega, H2, hI2⟩
          case measure => simp [RowKit.intOf]; omega
    · obtain rfl : k = n := by omega
      have hI2 : Hid (StI L S by' L.length D) := by show StI L S by' L.length D; rw [hn.out]; exact hI.out
      go_wp2_with fail
      refine (hcall.out _ _ _ H2.out hI2.out).mono ?_
      rintro e w3 ⟨B3, v', B', rfl, hBo, hC⟩
      go_wp2_with fail
      go_ret
      exact ⟨B3, v', B', rfl, hBo, hC⟩
end Go.Proofs.YtkfdikpnnkbgaaaGreatDoor
namespace Go.Proofs.YtkfdikpnnkbgaaaGreatDoor
open Go.RowKit Go.Shelf
set_option linter.unusedVariables false
set_option linter.unusedSimpArgs false
attribute [local go_sem] Oper.semAt_some

set_option maxHeartbeats 4000000 in
set_option maxRecDepth 100000 in
theorem appseqK_in (n : Nat) (hn : 3 ≤ n) (gf : Nat) (lb : Array Value) (Pr : Nat → Prop) (N : Nat) (hN : N ≤ 100000) (M : List Nat) (Sp : List { i : Nat // Pr i } → Prop) (w : World) (B0 : Nat) (hB0 : B0 ≤ w.heap.size) (eg : ∀ args w, (callFunc gf args).run Tryz.prog w = .ok (.enter gf args) w)
    (hseq : SeqStopsK Fence.wide (n - 1) Tryz.prog gf lb (encN (Pr := Pr)) (KO B0 (fun _ => False)) (fun xs => xs.map (·.1) = M) Sp N w) :
    CallsIn Fence.wide n Tryz.prog 81 #[.slice none 0 0, .func (.func gf) #[] lb] w fun e w' => ∃ v, e = .returned v ∧ w'.ownsRow w.heap.size 3 1 v M.length (cellsI M) ∧ Below w.heap.size w w' := by
  have hal := heap_alloc_new w (.cells #[.slice none 0 0] 54)
  have B1 : Below w.heap.size w (w.alloc (.cells #[.slice none 0 0] 54)) := (Below.refl _ w).alloc (Nat.le_refl _) _
  have hs1 : (w.alloc (.cells #[.slice none 0 0] 54)).heap.size = w.heap.size + 1 := by simp
  replace hseq := hide hseq
  have hbx : ∀ (a : Act) (x : Operand) (dst : Option Nat) (ty : TypeId) (pos : String) (after : Array Edge), a.eval x = .slice none 0 0 → (execOp a.eval ⟨dst, .box 54 x, ty, pos, after, none⟩).run Tryz.prog w = .ok (.value (.pointer (some ⟨w.heap.size, 0, none⟩))) (w.alloc (.cells #[.slice none 0 0] 54)) := fun a x dst ty pos after hx => by
    unfold execOp
    simp only [hx]
    kernel_rfl
  refine callsIn_of_wp_marks Tryz.func81 rfl trivial ?_ rfl
  simp only [Tryz.ntmps81, List.size_toArray, List.length_cons, List.length_nil, Nat.reduceAdd, Nat.reduceSub, Array.replicate_succ, Array.replicate_zero, List.push_toArray, List.append_toArray, List.nil_append, List.cons_append]
  gi_wp2_with (first | ((with_reducible refine atI_box 54 ?_); refine wlI_val wide_fn (fun c => nofun) (hbx _ _ _ _ _ _ rfl) ?_))
  generalize hw1 : w.alloc (.cells #[.slice none 0 0] 54) = w1 at *
  replace hw1 := hide hw1
  replace hal := hide hal
  have I0 : ApI w w.heap.size w1.heap.size (List.map (·.1) ([] : List { i : Nat // Pr i })) w1 := ⟨⟨_, hal.out, rfl, .inl ⟨rfl, rfl⟩⟩, B1⟩
  refine wpIn_rangeFunc_ownH rfl (by omega) (gf := gf) (lb := lb) rfl (wide_fn gf) eg
    hseq.out (fun h k => h.trans k) (fun Wd l o o' hl ho hc _ => ⟨by simp [World.putObj], fun k hk hlt hX => (grownBy_putObj' Wd l o').block k hlt (fun h => by cases h; omega)⟩) B1 (fun _ => rfl)
    (fun (pr : List { i : Nat // Pr i }) Wd => ApI w w.heap.size w1.heap.size (pr.map (fun x : { i : Nat // Pr i } => x.1)) Wd)
    (fun _ _ _ => False)
    (fun pr Wd Wd' row hs hg hr => hs.own (by omega) hg hr)
    (fun _ _ _ _ _ hs _ _ => hs)
    I0
    (fun z a' Wd => ∃ u0 u1 u3 u4 u6 u7 u8 u9 u10 u11 u12 : Value, a' = { tmps := #[u0, u1, .pointer (some ⟨w.heap.size, 0, none⟩), u3, u4, .int .i64 (z.1 : Int), u6, u7, u8, u9, u10, u11, u12], defers := [] })
    (fun x a' _ Wd Wd' row hs hg hr => hs) ?assign ?body ?done ?stop
  case assign =>
    intro l pr x Wd K hi hK
    simp only [encN, List.zip_toArray, List.zip_cons_cons, List.zip_nil_left, List.zip_nil_right, List.foldl_toArray, List.foldl_cons, List.foldl_nil, List.setIfInBounds_toArray, List.set_cons_zero, List.set_cons_succ]
    replace hK := hide hK
    replace hi := hide hi
    gi_wp2
    exact hK.out _ Wd ⟨Nat.le_refl _, fun _ _ _ h _ => h⟩ (KO.refl _ _ _) hi.out ⟨_, _, _, _, _, _, _, _, _, _, _, rfl⟩
  case body =>
    rintro l pr x a' Wd hl ⟨r, hr⟩ hs ⟨u0, u1, u3, u4, u6, u7, u8, u9, u10, u11, u12, rfl⟩ hlt
    have hlW := (Array.getElem?_eq_some_iff.1 hr).1
    obtain ⟨v, v', wx, e6, hrun, e6', hone, hs', hb'⟩ := hs.push (by omega) (Nat.le_refl _) (by omega) (by rw [List.length_map]; omega) x.1
    have c6 := cell_row e6 0 (v := v) rfl
    have hKF : KeepsFrom w1.heap.size Wd (wx.setCell ⟨w.heap.size, 0, none⟩ v') := ⟨hb'.size, fun k o hk ho hcs => (hb'.block k (Array.getElem?_eq_some_iff.1 ho).1 (fun h => by
      rcases h with h | ⟨_, cur, h⟩
      · omega
      · rw [ho] at h; cases h; cases hcs)).trans ho⟩
    have hKO : KO B0 (fun _ => False) Wd (wx.setCell ⟨w.heap.size, 0, none⟩ v') := ⟨hb'.size, fun k hk hlt2 _ => hb'.block k hlt2 (fun h => by
      rcases h with h | ⟨h, _⟩
      · omega
      · omega)⟩
    have hs2 : Hid (ApI w w.heap.size w1.heap.size ((pr ++ [x]).map (·.1)) (wx.setCell ⟨w.heap.size, 0, none⟩ v')) := by
      show ApI _ _ _ _ _
      rw [List.map_append]; exact hs'
    replace hs := hide hs
    clear hs'
    replace hb' := hide hb'
    replace hr := hide hr
    replace e6 := hide e6
    gi_wp2_with (first | ((with_reducible refine atI_load 54 ?_); refine wlI_load 54 (round_fn l) rfl (ld60 c6) ?_) | ((with_reducible refine atI_push ?_); refine wlI_push (round_fn l) hrun e6' hone rfl (fun _ => rfl) (fun _ => rfl) (fun _ _ => rfl) (fun _ _ => rfl) ?_; intro u0))
    exact ⟨hKF, hKO, hs2.out⟩
  case done =>
    rintro D xs Wd hD hS hI hK
    rw [hS] at hI
    obtain ⟨v, e1, e2⟩ := hI.row
    have c6 := cell_row e1 0 (v := v) rfl
    replace e1 := hide e1
    replace e2 := hide e2
    replace hI := hide hI
    replace hK := hide hK
    replace hS := hide hS
    gi_wp2_with (first | ((with_reducible refine atI_load 54 ?_); refine wlI_load 54 wide_fn rfl (ld60 c6) ?_))
    have B77 := grownBy_putObj' Wd D (.deferred none)
    refine ⟨by simp, .inl ⟨_, _, rfl, run_takeDeferred hK.out, ?_⟩⟩
    refine ⟨_, results_tmp rfl _ _ _, v, rfl, ?_, ?_⟩
    · have h1 : Wd.ownsRow w.heap.size 3 1 v M.length (cellsI M) := by
        refine ⟨e2.out.1, ?_⟩
        rcases e2.out.2 with h | ⟨g, cap, cur, q0, q1, q2⟩
        · exact .inl h
        · exact .inr ⟨g, cap, cur, q0, by omega, q2⟩
      exact owns_kept h1 (fun k cur _ e => (B77.block k (Array.getElem?_eq_some_iff.1 e).1 (fun h => by cases h; rw [hK.out] at e; cases e)).trans e)
    · exact hI.out.bel.grown B77 hI.out.bel.size (fun k e => by cases e; omega)
  case stop => rintro D cc pr Wd hD hS h; exact h.elim
set_option maxHeartbeats 1000000 in
theorem collectK_any (gf : Nat) (lb : Array Value) (Pr : Nat → Prop) (N : Nat) (hN : N ≤ 100000) (M : List Nat) (Sp : List { i : Nat // Pr i } → Prop) (w : World) (B0 : Nat) (hB0 : B0 ≤ w.heap.size) (eg : ∀ args w, (callFunc gf args).run Tryz.prog w = .ok (.enter gf args) w)
    (hseq : SeqStopsK Fence.wide (8 - 1) Tryz.prog gf lb (encN (Pr := Pr)) (KO B0 (fun _ => False)) (fun xs => xs.map (·.1) = M) Sp N w) :
    Calls Tryz.prog 52 #[.func (.func gf) #[] lb] w fun e w' => ∃ v, e = .returned v ∧ w'.ownsRow w.heap.size 3 1 v M.length (cellsI M) ∧ Below w.heap.size w w' := by
  have H := hide (callsIn_wide.1 (appseqK_in 8 (by omega) gf lb Pr N hN M Sp w B0 hB0 eg hseq))
  clear hseq
  go_enter Tryz.func52, Tryz.ntmps52
  go_wp2_with fail
  refine H.out.mono ?_
  rintro e w1 ⟨v, rfl, ho, B⟩
  replace ho := hide ho
  go_wp2_with fail
  go_ret
  exact ⟨v, rfl, ho.out, B⟩
set_option maxRecDepth 100000 in
set_option maxHeartbeats 2000000 in
theorem at_any (g : Nat) (ad : Option Addr) (n c : Nat) (hn : 0 < n) (W : List Nat) (hW : OkW W) (w : World) (hT : Tab w) (h : Rn w g ad n c W) (hM : (mems W).length ≤ 100000) :
    Calls Tryz.prog 20 #[.pointer (some ⟨g, 0, none⟩)] w fun e w' => ∃ v, e = .returned v ∧ w'.ownsRow w.heap.size 3 1 v (mems W).length (cellsI (mems W)) ∧ Below w.heap.size w w' := by
  have H1 := hide (isMade_any g ad n c hn w h.l)
  have H2 := hide (callsIn_wide.1 (all_in 5 ⟨g, 1, none⟩ w))
  have h0 := hT.pos
  have hgl := h.lt
  replace h := hide h
  replace hT := hide hT
  go_enter Tryz.func20, Tryz.ntmps20
  go_wp2_with fail
  refine H1.out.mono ?_
  rintro e w1 ⟨rfl, rfl⟩
  go_wp2_with fail
  refine H2.out.mono ?_
  rintro e w2 ⟨gB, rfl, hbB, B2, hge⟩
  have h2 : Rn w2 g ad n c W := h.out.kept (B2.block g hgl)
  have hs2 := B2.size
  have hst := all_stops (Pr := fun _ => True) w2.heap.size (fun _ => False) (8 - 1) gB g #[.slice ad n c] 111 W hW w2 hbB h2 (hT.out.below B2) (by omega) (fun h => h) (fun _ _ => trivial)
  have hcl := hide (collectK_any 82 _ (fun _ => True) _ hM _ _ w2 w2.heap.size (Nat.le_refl _) (enters_of Tryz.func82 (by kernel_rfl) rfl) hst)
  replace B2 := hide B2
  clear hst hbB h2
  go_wp2_with fail
  refine hcl.out.mono ?_
  rintro e w3 ⟨v, rfl, ho, B3⟩
  replace ho := hide ho
  go_wp2_with fail
  go_ret
  refine ⟨v, rfl, ?_, B2.out.trans (B3.mono hs2)⟩
  refine ⟨ho.out.1, ?_⟩
  rcases ho.out.2 with h | ⟨g, cap, cur, q0, q1, q2⟩
  · exact .inl h
  · exact .inr ⟨g, cap, cur, q0, by omega, q2⟩
end Go.Proofs.YtkfdikpnnkbgaaaGreatDoor
namespace Go.Proofs.YtkfdikpnnkbgaaaGreatDoor
open Go.RowKit Go.Shelf
set_option linter.unusedVariables false
set_option linter.unusedSimpArgs false

theorem pA_size {pre : Array Value} {W : List Nat} : (pA pre W).size = pre.size + W.length := by simp [pA, wA]
theorem pA_one (ad : Option Addr) (n c : Nat) (W : List Nat) : (pA #[.slice ad n c] W).all (·.oneCell') = true := by
  simp [pA, wA, Value.oneCell']
theorem ld111 {w : World} {g : Nat} {ad : Option Addr} {n c : Nat} {W : List Nat} (h : Rn w g ad n c W) (hW : OkW W) : (loadVar 111 ⟨g, 0, none⟩).run Tryz.prog w = .ok (.agg (pA #[.slice ad n c] W)) w :=
  run_loadVar_row (P := Tryz.prog) w g 111 111 _ (0, 0) _ h Tryz.underlying111 rfl (by rw [size103, pA_size, hW.len]; rfl)
set_option maxRecDepth 100000 in
set_option maxHeartbeats 2000000 in
theorem reset_any (g : Nat) (ad : Option Addr) (c : Nat) (L : List Ins) (W : List Nat) (hW : OkW W) (w : World) (h : Rn w g ad L.length c W) (hL : HsI w (fun k => k < w.heap.size ∧ k ≠ g) ad L) (hG : GoL L) (h0 : 0 < L.length) (hlen : L.length ≤ 2048) :
    Calls Tryz.prog 24 #[.pointer (some ⟨g, 0, none⟩)] w fun e w' => e = .returned (.tuple #[]) ∧ But (fun k => k = g) w w' ∧ ∃ W', OkW W' ∧ (∀ m, inW W' m = true ↔ Eps L 0 m) ∧ Rn w' g ad L.length c W' := by
  have H1 := hide (isMade_any g ad L.length c h0 w h.l)
  have cl := h.l
  have H : St (fun k => k = g) w w [(true, g, 111, pA #[.slice ad L.length c] W)] := ⟨But.refl _ _, fun x hx => by rw [List.mem_singleton.1 hx]; exact h, fun x hx _ _ => by rw [List.mem_singleton.1 hx], by simp⟩
  have H2 := hide (begin_any ad c L w (hL.kept (fun _ _ _ => rfl) (fun k hk h => h.1)) hG hlen h0)
  have hWl := hW.len
  replace H := hide H
  clear hL h
  go_enter Tryz.func24, Tryz.ntmps24
  go_wp2_with fail
  refine H1.out.mono ?_
  rintro e w1 ⟨rfl, rfl⟩
  go_wp2_with (first | (with_reducible refine at_load 30 ?_; refine wl_loadA 30 rfl (ld29 cl) ?_))
  refine H2.out.mono ?_
  rintro e w2 ⟨g', W', rfl, hge, B2, hW', hst, hR⟩
  have H3 := H.out.call B2 (Nat.le_refl _)
  have hld := ld111 hR hW'
  replace hst := hide hst
  replace hR := hide hR
  replace B2 := hide B2
  have hsz1 : (pA #[.slice ad L.length c] W).size = (pA #[.slice ad L.length c] W').size := by rw [pA_size, pA_size, hWl, hW'.len]
  have hsz2 : (Tryz.prog.info? 111).map (·.size) = some (pA #[.slice ad L.length c] W').size := by rw [size103, pA_size, hW'.len]; rfl
  replace hW' := hide hW'
  go_wp2_with (first | (with_reducible refine at_load 111 ?_; refine wl_loadA 111 rfl hld ?_) | (with_reducible refine at_store 111 ?_; refine wl_store 0 111 H3 rfl rfl rfl hsz2 hsz1 (pA_one _ _ _ _) ?_; intro w4 H4))
  (try simp only [Exit.inBlock, Exit.then])
  first | refine bodyPost_ret (results_none rfl _ _ _) rfl ?_ | refine bodyPost_normal (results_none rfl _ _ _) rfl ?_ | refine bodyPost_end (results_none rfl _ _ _) rfl ?_
  exact ⟨rfl, H4.but, W', hW'.out, hst.out, H4.get 0 rfl⟩

theorem flatI_inv {L : List Ins} {j : Nat} {u : Value} (h : (flatI L)[j]? = some u) : ∃ q, L[j / 7]? = some q ∧ (insA q)[j % 7]? = some u := by
  have hj := (List.getElem?_eq_some_iff.1 h).1
  rw [flatI_len] at hj
  have hk : j / 7 < L.length := by omega
  have h7 : j % 7 < (insA (L[j / 7]'hk)).size := by show j % 7 < 7; omega
  have hb := flatI_at L (j / 7) _ (List.getElem?_eq_getElem hk) (j % 7) _ (Array.getElem?_eq_getElem h7)
  rw [show j / 7 * 7 + j % 7 = j by omega, h] at hb
  exact ⟨_, List.getElem?_eq_getElem hk, by rw [Array.getElem?_eq_getElem h7, hb]⟩
theorem flatI_one (L : List Ins) : ∀ u ∈ flatI L, u.oneCell' = true := fun u hu => by
  obtain ⟨q, _, hq⟩ := List.mem_flatMap.1 hu
  have := Array.all_eq_true'.1 (insA_all q) u (by simpa using hq)
  exact this
theorem owns_emptyI (w : World) : (w.alloc (.cells #[] 102)).ownsRow w.heap.size 102 7 (.slice (some ⟨w.heap.size, 0, none⟩) 0 0) 0 (flatI []) := by
  simpa [flatI] using World.ownsRow_made (e := 102) (size := 7) w #[] 0 (Nat.le_refl _) (Nat.zero_le _) (by simp)
theorem equalIn_nil30 (w : World) (d : Nat) (a : Option Addr) (l c : Nat) : (Op.equalIn (d + 1) 30 (.slice a l c) (.slice none 0 0)).run Tryz.prog w = .ok a.isNone w := by
  cases a <;> simp [Op.equalIn, run_underlying Tryz.underlying30]
theorem eql_nil30 (w : World) (a : Option Addr) (l c : Nat) : (binOp .eql 30 (.slice a l c) (.slice none 0 0)).run Tryz.prog w = .ok (.bool a.isNone) w := by
  have h : (Op.equal 30 (.slice a l c) (.slice none 0 0)).run Tryz.prog w = .ok a.isNone w := equalIn_nil30 w 9999 a l c
  simp [binOp, h]
set_option maxRecDepth 100000 in
set_option maxHeartbeats 2000000 in
theorem cloneI_any (ad : Option Addr) (c : Nat) (L : List Ins) (w : World) (hL : HsI w (fun k => k < w.heap.size) ad L) (h0 : 0 < L.length) (hlen : L.length ≤ 2048) :
    Calls Tryz.prog 48 #[.slice ad L.length c] w fun e w' => ∃ a' c', e = .returned (.slice a' L.length c') ∧ Below w.heap.size w w' ∧ HsI w' (fun k => k < w'.heap.size) a' L := by
  obtain ⟨i0, hi, hz0, hz1, hz2⟩ := infoI
  have O := owns_emptyI w
  have hA : Below w.heap.size w (w.alloc (.cells #[] 102)) := (Below.refl _ w).alloc (Nat.le_refl _) _
  rcases hL with rfl | ⟨b, off, cur, t, fr, rfl, hy, hb, hc⟩
  · cases h0
  have hcc : ∀ j u, (flatI L)[j]? = some u → (w.alloc (.cells #[] 102)).cell? ((⟨b, off, none⟩ : Addr).add j) = some u := fun j u hj => by
    obtain ⟨q, h1, h2⟩ := flatI_inv hj
    rw [add_plain, cell_of_row _ b _ _ t fr ((hA.block b hy).trans hb)]
    have := hc _ _ h1 _ _ h2
    rwa [show off + j / 7 * 7 + j % 7 = off + j by omega] at this
  have hln := flatI_len L
  have hone := flatI_one L
  have hd := eql_nil30 w (some ⟨b, off, none⟩) L.length c
  replace hA := hide hA
  replace hcc := hide hcc
  replace hone := hide hone
  replace O := hide O
  clear hb hc
  obtain ⟨n, hn⟩ : ∃ n, L.length = n := ⟨_, rfl⟩
  rw [hn] at h0 hlen hln hd ⊢
  replace hn := hide hn
  replace hln := hide hln
  go_enter Tryz.func48, Tryz.ntmps48
  go_wp2_with (first | (at_builtin; refine wpList_append_own _ rfl (.tmp 5) (.tmp 6) 30 rfl w.heap.size 102 i0 (insV ins0) 7 56 Tryz.underlying30 hi hz0 hz1 hz2 rfl (by decide) _ 0 _ rfl O.out ⟨b, off, none⟩ n c (flatI L) rfl hln.out hcc.out hone.out (by unfold maxLen; omega) (by omega) (by simp) ?_; intro v1 w1 h1 h2 h3; clear h3; replace h1 := hide h1; replace h2 := hide h2))
  go_ret
  have h1' : w1.ownsRow w.heap.size 102 7 v1 L.length (flatI L) := by rw [hn.out]; simpa [flatI] using h1.out
  have hbel : Below w.heap.size w w1 := (hA.out.grown h2.out (by simp) (fun k hk => by cases hk; exact Nat.le_refl _))
  have hRI : RI w1 v1 L := ⟨h1'.1, h1'.2.imp id (fun ⟨g, cap, cur, q0, q1, q2⟩ => ⟨g, cap, cur, q0, Nat.zero_le _, q2⟩)⟩
  obtain ⟨a', c', rfl, hs⟩ := hRI.hs
  refine ⟨a', c', ?_, hbel, hs.kept (fun _ _ _ => rfl) (fun k hk _ => hk)⟩
  rw [hn.out]; rfl
set_option maxRecDepth 100000 in
set_option maxHeartbeats 2000000 in
theorem new_any (ad : Option Addr) (c : Nat) (L : List Ins) (w : World) (hL : HsI w (fun k => k < w.heap.size) ad L) (hc : chkI L = 0) (hG : GoL L) (h0 : 0 < L.length) (hlen : L.length ≤ 2048) :
    Calls Tryz.prog 16 #[.slice ad L.length c] w fun e w' => ∃ g a' c' W, e = .returned (.tuple #[.pointer (some ⟨g, 0, none⟩), .int .i64 0]) ∧ w.heap.size ≤ g ∧ Below w.heap.size w w' ∧ OkW W ∧ (∀ m, inW W m = true ↔ Eps L 0 m) ∧ Rn w' g a' L.length c' W ∧ HsI w' (fun k => k < w'.heap.size ∧ k ≠ g) a' L := by
  have H1 := hide (chk_any ad c L w hL)
  rw [hc] at H1
  replace hL := hide hL
  replace hG := hide hG
  go_enter Tryz.func16, Tryz.ntmps16
  go_wp2_with fail
  refine H1.out.mono ?_
  rintro e w1 ⟨rfl, B1⟩
  have hL1 := hL.out.kept (Y' := fun k => k < w1.heap.size) (fun k _ hk => B1.block k hk) (fun k hk h => by have := B1.size; omega)
  have H2 := hide (cloneI_any ad c L w1 hL1 h0 hlen)
  replace B1 := hide B1
  go_wp2_with fail
  refine H2.out.mono ?_
  rintro e w2 ⟨a', c', rfl, B2, hL2⟩
  have H3 := hide (begin_any a' c' L w2 hL2 hG.out hlen h0)
  replace B2 := hide B2
  replace hL2 := hide hL2
  go_wp2_with fail
  refine H3.out.mono ?_
  rintro e w3 ⟨g, W, rfl, hge, B3, hW, hst, hR⟩
  have s1 := B1.out.size
  have s2 := B2.out.size
  have s3 := B3.size
  have hL3 : HsI w3 (fun k => k < w3.heap.size ∧ k ≠ g) a' L := hL2.out.kept (fun k _ hk => B3.block k hk) (fun k hk h => ⟨by omega, by omega⟩)
  have hbb : Below w.heap.size w w3 := (B1.out.trans (B2.out.mono s1)).trans (B3.mono (by omega))
  replace hL3 := hide hL3
  replace hbb := hide hbb
  replace hst := hide hst
  replace hR := hide hR
  clear B3
  go_wp2_with fail
  go_ret2
  exact ⟨g, a', c', W, rfl, by omega, hbb.out, hW, hst.out, hR.out, hL3.out⟩
set_option maxRecDepth 100000 in
set_option maxHeartbeats 2000000 in
theorem new_bad (ad : Option Addr) (c : Nat) (L : List Ins) (w : World) (hL : HsI w (fun k => k < w.heap.size) ad L) (hc : chkI L = 110) :
    Calls Tryz.prog 16 #[.slice ad L.length c] w fun e w' => e = .returned (.tuple #[.pointer none, .int .i64 110]) ∧ Below w.heap.size w w' := by
  have H1 := hide (chk_any ad c L w hL)
  rw [hc] at H1
  clear hL hc
  go_enter Tryz.func16, Tryz.ntmps16
  go_wp2_with fail
  refine H1.out.mono ?_
  rintro e w1 ⟨rfl, B1⟩
  replace B1 := hide B1
  go_wp2_with fail
  go_ret2
  exact ⟨rfl, B1.out⟩
end Go.Proofs.YtkfdikpnnkbgaaaGreatDoor
