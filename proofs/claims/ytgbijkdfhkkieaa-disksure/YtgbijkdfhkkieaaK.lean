/-
  put, Append, Write.
-/
import Derived.Test.YtgbijkdfhkkieaaJ
namespace Go.Proofs.Ytgbijkdfhkkieaa
open Go.RowKit Go.Maps Go.Lib
set_option linter.unusedVariables false
set_option linter.unusedSimpArgs false

/-- Bytes copied into a row, from a place on. -/
theorem wpList_copyAt {w : World} {ops : Array Oper} {rest : List Oper} {o : Oper} {a : Act} {Q : Exit → Act → World → Prop} (hgd : o.guard = none) (dd s : Operand)
    (ho : o.op = .call { callee := .builtin .copy, args := #[dd, s], argTypes := #[23, 23] })
    (r off dLen dCap : Nat) (hd : a.eval dd = .slice (some ⟨r, off, none⟩) dLen dCap) (cur : Array Value) (hB : Bx w r 5 cur) (hfit : off + dLen ≤ cur.size)
    (sa : Option Addr) (mm scap : Nat) (l : List Int) (hs : a.eval s = .slice sa mm scap) (hh : Has w sa mm scap l)
    (h : ∀ w', Bx w' r 5 (cur.toList.take off ++ (u8s (l.take dLen) ++ cur.toList.drop (off + (l.take dLen).length))).toArray → But (fun x => x = r) w w' → wpList Try.prog ops Q rest (a.put o.dst (goInt (l.take dLen).length)) w') :
    wpList Try.prog ops Q (o :: rest) a w := by
  have hsz : (Try.prog.info? 5).map (·.size) = some 1 := by
    obtain ⟨i0, hi, hz0, hz1, hz2⟩ := info_parts info5
    simp [hi, hz1]
  have hml := hh.hlen
  have hlt : (l.take dLen).length = min dLen mm := by rw [List.length_take, hml]
  have hmn : Nat.min mm dLen = min dLen mm := by show min mm dLen = min dLen mm; omega
  by_cases h0 : (l.take dLen).length = 0
  · have e0 : l.take dLen = [] := List.eq_nil_of_length_eq_zero h0
    refine wpList_copy_nothing hgd dd s 23 23 ho 5 Try.underlying23 hsz _ _ dLen dCap mm scap hd hs (by rw [hmn]; omega) ?_
    have := h w (by rw [e0]; simpa using hB) (But.refl _ _)
    rw [h0] at this
    exact this
  · have hp : 0 < mm := by omega
    obtain ⟨b, bo, rfl, e2, e3⟩ := cells_of_has hh hp
    have hl : (u8s (l.take dLen)).length = (l.take dLen).length := by simp
    have key := wpList_copy_own (P := Try.prog) (Q := Q) (ops := ops) (rest := rest) hgd dd s 23 23 ho 5 Try.underlying23 hsz r off dLen dCap ⟨b, bo, none⟩ mm scap hd hs cur 5 hB (u8s (l.take dLen)) (by rw [hl, hmn, hlt])
      (fun j v hj => e3 j v (by
        unfold u8s at hj
        rw [List.map_take, List.getElem?_take] at hj
        split at hj
        · exact hj
        · cases hj)) (by rw [hl, hlt]; omega) (ints_oneCell _ _)
    rw [hl] at key
    exact key (h _ (setRow_heap w r cur _ 5 _ hB) ⟨rfl, rfl, rfl, by simp, fun k _ hk => setRow_other w r k _ hk⟩)

/-- Bytes written over others, from a place on. -/
def wr (l : List Int) (p : Nat) (B : List Int) : List Int := l.take p ++ B ++ l.drop (p + B.length)
theorem wr_length {l : List Int} {p : Nat} (B : List Int) (hp : p ≤ l.length) : (wr l p B).length = max l.length (p + B.length) := by
  simp [wr]; omega
theorem wr_nil {l : List Int} {p : Nat} (hp : p ≤ l.length) : wr l p [] = l := by simp [wr]
theorem wr_byt {l : List Int} {p : Nat} {B : List Int} (h1 : Byt l) (h2 : Byt B) : Byt (wr l p B) := by
  intro x hx
  simp only [wr, List.mem_append] at hx
  rcases hx with (hx | hx) | hx
  · exact h1 x (List.mem_of_mem_take hx)
  · exact h2 x hx
  · exact h1 x (List.mem_of_mem_drop hx)
/-- What the row has behind the copy. -/
theorem wr_row {cur : List Value} {l B : List Int} {p sz k : Nat} (hp : p ≤ l.length) (hsz : sz = max l.length (p + B.length)) (hc : sz ≤ cur.length) (ht : cur.take l.length = u8s l) (hk : k = B.length) :
    (cur.take p ++ (u8s B ++ cur.drop (p + k))).take sz = u8s (wr l p B) := by
  subst hk
  have e1 : cur.take p = u8s (l.take p) := by
    have := congrArg (List.take p) ht
    rwa [List.take_take, Nat.min_eq_left hp, ← List.map_take] at this
  have hl1 : (u8s (l.take p)).length = p := by simp; omega
  have hl2 : (u8s (l.take p) ++ u8s B).length = p + B.length := by rw [List.length_append, hl1]; simp
  have e2 : u8s (wr l p B) = (u8s (l.take p) ++ u8s B) ++ (u8s l).drop (p + B.length) := by simp [wr, u8s, List.map_drop]
  rw [e1, e2, ← List.append_assoc, List.take_append, List.take_of_length_le (by rw [hl2]; omega), hl2, ← ht, List.drop_take]
  by_cases hle : p + B.length ≤ l.length
  · rw [show sz - (p + B.length) = l.length - (p + B.length) by omega]
  · rw [show sz - (p + B.length) = 0 by omega, show l.length - (p + B.length) = 0 by omega]

section
variable {w w' : World} {d bf bs : Nat} {m : M} {T : Nat → Prop} {V : Nat → Value × Value}
/-- Bytes are not of a file's block. -/
theorem Has.set82 {ab : Option Addr} {lb cb : Nat} {B : List Int} (h : Has w ab lb cb B) {g : Nat} {v1 v2 : Value} (hx : Bx w g 82 #[v1, v2]) (n1 : ∀ x, v1 ≠ .int .u8 x) (n2 : ∀ x, v2 ≠ .int .u8 x) (i : Nat) (u : Value) : Has (w.setCell ⟨g, i, none⟩ u) ab lb cb B := by
  refine ⟨h.hlen, h.le, h.capb, h.nil, fun hp => ?_, h.bytes⟩
  obtain ⟨b, off, e1, e2, e3⟩ := h.cells hp
  have hne : b ≠ g := by
    rintro rfl
    have := e3 0 hp
    rw [hx.cell] at this
    rcases off with _ | _ | off
    · exact n1 _ (by simpa using this)
    · exact n2 _ (by simpa using this)
    · simp at this
  refine ⟨b, off, e1, by simpa [World.setCell] using e2, fun j hj => ?_⟩
  rw [World.cell?_setCell_far w _ _ _ (fun e => hne e.symm)]
  exact e3 j hj
/-- A file's bytes are others: what put's copy leaves. -/
theorem Dk.putted (h : Dk w d m T bf bs V) {g : Nat} (hg : g ∈ m.ids) {w2 w4 : World} {a2 : Option Addr} {c2 sz : Nat} {l1 : List Int} (B2 : Below w.heap.size w w2)
    (k2 : ∀ k, (Value.slice a2 sz c2).ownBlock = some k → (V g).1.ownBlock = some k ∨ w.heap.size ≤ k) (hb : But (fun x => (Value.slice a2 sz c2).ownBlock = some x) (w2.setCell ⟨g, 0, none⟩ (.slice a2 sz c2)) w4)
    (hl : l1.length = sz) (o1 : w4.ownsRow 0 5 1 (.slice a2 sz c2) sz (u8s l1)) (hb1 : Byt l1) :
    Dk w4 d { m with ct := upd m.ct g (l1, (m.ct g).2) } (nw T w w4) bf bs (updV V g (.slice a2 sz c2, (V g).2)) ∧ But T w w4 := by
  have D2 := h.below B2
  have X2 := (D2.fl g hg).1
  have own2 : ∀ k, (V g).2.ownBlock = some k → (Value.slice a2 sz c2).ownBlock ≠ some k := fun k hk e => by
    rcases k2 k e with f | f
    · exact h.s2 g hg g hg k f hk
    · have := ((h.fl g hg).2.2.lt k hk).2
      omega
  have ng : (Value.slice a2 sz c2).ownBlock ≠ some g := fun e => has_ne_of_row o1 (xs := #[.slice a2 sz c2, (V g).2]) (by
    rcases k2 g e with f | f
    · exact ((h.n1 hg f).2.1 hg).elim
    · have := (h.fl g hg).1.lt
      omega) e rfl
  have bb : But (fun x => x = g ∨ (V g).1.ownBlock = some x) w w4 := ((But.of_below B2 _).setCell (p := ⟨g, 0, none⟩) (fun _ => .inl rfl) _).trans hb (fun i hi e => by
    rcases k2 i e with f | f
    · exact .inr f
    · omega)
  have K := h.file hg (w' := w4) (v1 := .slice a2 sz c2) (v2 := (V g).2) (l1 := l1) (l2 := (m.ct g).2) bb
    ((file_set w2 X2 _).1.but hb ng) (by rw [hl]; exact o1)
    (owns_of_block (owns_of_block (D2.fl g hg).2.2 (fun k hk => Below.heap_setCell w2 _ _ k (fun e => has_ne_of_row (D2.fl g hg).2.2 X2 hk e))) (fun k hk => hb.block k (by have := ((D2.fl g hg).2.2.lt k hk).2; simpa [World.setCell] using this) (own2 k hk)))
    hb1 (h.byt g hg).2 k2 (fun k hk => .inl hk) (fun k hk hk2 => own2 k hk2 hk)
  exact ⟨K, bb.mono (fun k e => by rcases e with e | e; rw [e]; exact (h.ti g hg).1; exact (h.ti g hg).2.1 k e)⟩
def pUsed (m : M) (g : Nat) (sz : Nat) : Int := m.used - (sec (m.ct g).1.length : Int) + (sec sz : Int)
/-- What put does: too long, no room, or done. -/
def Pt (m : M) (g p : Nat) (B : List Int) (r : Int) (m' : M) : Prop :=
  (r ≠ 0 ∧ m' = m ∧ ¬ (max (m.ct g).1.length (p + B.length) ≤ 4194304 ∧ pUsed m g (max (m.ct g).1.length (p + B.length)) ≤ m.room)) ∨
  (r = 0 ∧ (max (m.ct g).1.length (p + B.length) ≤ 4194304 ∧ pUsed m g (max (m.ct g).1.length (p + B.length)) ≤ m.room) ∧ m' = dn { m with ct := upd m.ct g (wr (m.ct g).1 p B, (m.ct g).2), used := pUsed m g (max (m.ct g).1.length (p + B.length)) })
set_option maxHeartbeats 4000000 in
set_option maxRecDepth 100000 in
theorem put_any (h : Dk w d m T bf bs V) (hm : Sm m) {g : Nat} (hg : g ∈ m.ids) {p : Nat} (hp : p ≤ (m.ct g).1.length) {ab : Option Addr} {lb cb : Nat} {B : List Int} (hB : Has w ab lb cb B) (hlb : lb ≤ 1073741824) :
    Calls Try.prog 44 #[ptr d, ptr g, .int .i64 (p : Int), .slice ab lb cb] w (Res w d T (Pt m g p B)) := by
  obtain ⟨c0, c1, c2, c3, c4, c5, c6⟩ := h.cs
  obtain ⟨f0, f1⟩ := h.fc hg
  obtain ⟨a, c, e1, H1⟩ := h.has1 hg
  have hL := (hm.hc g hg).1
  obtain ⟨L, hLe⟩ : ∃ L, (m.ct g).1 = L := ⟨_, rfl⟩
  obtain ⟨sz, hsz⟩ : ∃ sz, sz = max L.length (p + lb) := ⟨_, rfl⟩
  have hbl := hB.hlen
  rw [hLe] at hp hL H1 e1
  rw [e1] at f0
  have x1 : (if (L.length : Int) < (p : Int) + (lb : Int) then (p : Int) + (lb : Int) else (L.length : Int)) = (sz : Int) := by rw [hsz]; split <;> omega
  have x2 : max (L.length : Int) ((p : Int) + (lb : Int)) = (sz : Int) := by rw [hsz]; omega
  by_cases h4 : sz ≤ 4194304
  · -- MAIN
    have i4 : ¬ ((4194304 : Int) < (sz : Int)) := by omega
    obtain ⟨S1, hS1⟩ : ∃ S1, S1 = sec L.length := ⟨_, rfl⟩
    obtain ⟨S2, hS2⟩ : ∃ S2, S2 = sec sz := ⟨_, rfl⟩
    have hS14 : S1 ≤ 4194304 := by rw [hS1]; exact sec_le hL
    have hS24 : S2 ≤ 4194304 := by rw [hS2]; exact sec_le (by omega)
    have P1 : ∀ wx : World, wx = w.drew → Calls Try.prog 37 #[ptr g] wx fun e w' => e = .returned (.int .i64 (S1 : Int)) ∧ w' = wx := by
      rintro wx rfl
      rw [hS1, ← hLe]
      exact fsec_any h.drew hg (by rw [hLe]; omega)
    have P2 : ∀ wx : World, Calls Try.prog 61 #[.int .i64 (sz : Int)] wx fun e w' => e = .returned (.int .i64 (S2 : Int)) ∧ w' = wx := fun wx => by rw [hS2]; exact sectors_any sz wx (by omega)
    have hw1 : IntKind.i64.wrap (m.used - (S1 : Int)) = m.used - (S1 : Int) := wrapi _ (by have := hm.hu; omega)
    have hw2 : IntKind.i64.wrap (m.used - (S1 : Int) + (S2 : Int)) = m.used - (S1 : Int) + (S2 : Int) := wrapi _ (by have := hm.hu; omega)
    obtain ⟨U2, hU2⟩ : ∃ U2, m.used - (S1 : Int) + (S2 : Int) = U2 := ⟨_, rfl⟩
    have eU : Hid (pUsed m g (max (m.ct g).1.length (p + B.length)) = U2) := by
      show pUsed m g (max (m.ct g).1.length (p + B.length)) = U2
      rw [pUsed, hLe, hbl, ← hsz, ← hS1, ← hS2, hU2]
    have eM : Hid (max (m.ct g).1.length (p + B.length) = sz) := by
      show max (m.ct g).1.length (p + B.length) = sz
      rw [hLe, hbl, hsz]
    replace P1 := hide P1
    replace P2 := hide P2
    replace hw1 := hide hw1
    replace hw2 := hide hw2
    have hDk := hide h
    clear h
    replace hsz := hide hsz
    replace H1 := hide H1
    replace hB := hide hB
    replace hS1 := hide hS1
    replace hS2 := hide hS2
    replace hU2 := hide hU2
    by_cases hro : U2 ≤ m.room
    · -- ROOM
      have i5 : ¬ (m.room < U2) := by omega
      obtain ⟨n, hn⟩ : ∃ n, L.length + n = sz := ⟨sz - L.length, by have := hsz.out; omega⟩
      have ez : (sz : Int) - (L.length : Int) = (n : Int) := by omega
      have hwn : IntKind.i64.wrap (n : Int) = (n : Int) := wrapi _ (by omega)
      have OL : w.ownsRow 0 5 1 (.slice a L.length c) L.length (u8s L) := by
        have := (hDk.out.fl g hg).2.1
        rwa [hLe, e1] at this
      have PGr : Hid (∀ wx : World, wx = w.drew.drew → Calls Try.prog 69 #[.slice a L.length c, .int .i64 (n : Int)] wx fun e w' => ∃ a2 cp, e = .returned (.slice a2 L.length cp) ∧
          (Below w.heap.size w w' ∧ w'.ownsRow 0 5 1 (.slice a2 L.length cp) L.length (u8s L) ∧ sz ≤ cp ∧ ∀ k, (Value.slice a2 L.length cp).ownBlock = some k → (Value.slice a L.length c).ownBlock = some k ∨ w.heap.size ≤ k) ∧ sz ≤ cp ∧ w'.cell? ⟨g, 0, none⟩ = some (.slice a L.length c) ∧ w'.frozen? ⟨g, 0, none⟩ = false) := by
        rintro wx rfl
        refine (grow_any w.drew.drew a c n L OL (by omega)).mono ?_
        rintro e w' ⟨a2, cp, rfl, B2, O2, hc2, k2⟩
        have B3 : Below w.heap.size w w' := ((Below.refl w.heap.size w).drew.drew).trans B2
        have X := ((hDk.out.below B3).fl g hg).1
        exact ⟨a2, cp, rfl, ⟨B3, O2, by omega, k2⟩, by omega, by rw [X.cell 0, e1]; rfl, X.fz 0⟩
      replace OL := hide OL
      replace ez := hide ez
      replace hwn := hide hwn
      go_enter Try.func44, Try.ntmps44
      go_wp2_with fail
      refine reg44_4 w d g sz m.used (S1 : Int) (S2 : Int) c6 hw1.out hw2.out P1.out P2.out _ _ _ _ _ _ _ _ _ _ _ _ _ _ _ _ _ _ _ _ _ _ _ _ _ _ _ _ _ _ _ _ _ _ _ _ _ _ _ _ _ _ _ _ _ _ _ _ _ _ _ _ _ _ _ _ _ _ _ _ _ _ _ _ _ _ _ _ _ _ ?_
      rw [hU2.out]
      have D1 := hide hDk.out.drew
      obtain ⟨q0, q1, q2, q3, q4, q5, q6⟩ := D1.out.cs
      have fd0 : w.drew.cell? ⟨g, 0, none⟩ = some (.slice a L.length c) := f0
      clear P1 P2 hw1 hw2 D1
      go_wp2_with fail
      refine reg44_7 w.drew g sz L.length c n a fd0 ez.out hwn.out _ PGr.out _ _ _ _ _ _ _ _ _ _ _ _ _ _ _ _ _ _ _ _ _ _ _ _ _ _ _ _ _ _ _ _ _ _ _ _ _ _ _ _ _ _ _ _ _ _ _ _ _ _ _ _ _ _ _ _ _ _ _ _ _ _ _ _ _ _ _ _ _ _ _ ?_
      rintro a2 cp w2 ⟨B2, O2, hc2, k2⟩
      clear q0 q1 q2 q3 q4 q5 q6 PGr fd0 c0 c1 c2 c3 c4 c5 c6 f0 f1
      have D2 := hDk.out.below B2
      have X2 := (D2.fl g hg).1
      have X3 := (file_set w2 X2 (.slice a2 sz cp)).1
      have r0 := X3.cell 0
      simp only [List.getElem?_toArray, List.getElem?_cons_zero] at r0
      have n1 : ∀ x, (V g).1 ≠ .int .u8 x := fun x e => by rw [e1] at e; cases e
      have n2 : ∀ x, (V g).2 ≠ .int .u8 x := fun x e => by obtain ⟨a', c', e', _⟩ := hDk.out.has2 hg; rw [e'] at e; cases e
      have HB3 := hide (((hB.out.kept B2 (Nat.le_refl _)).set82 X2 n1 n2 0 (.slice a2 sz cp)))
      have k3 : Hid (∀ k, (Value.slice a2 sz cp).ownBlock = some k → (V g).1.ownBlock = some k ∨ w.heap.size ≤ k) := fun k hk => by
        rw [e1]
        exact k2 k (by cases a2 <;> exact hk)
      obtain ⟨w3, hw3⟩ : ∃ w3, w2.setCell ⟨g, 0, none⟩ (.slice a2 sz cp) = w3 := ⟨_, rfl⟩
      by_cases hl0 : lb = 0
      · subst hl0
        have hB0 : B = [] := List.eq_nil_of_length_eq_zero hbl
        subst hB0
        have hszL : sz = L.length := by have := hsz.out; omega
        have O3 : w3.ownsRow 0 5 1 (.slice a2 sz cp) sz (u8s (wr L p [])) := by
          rw [wr_nil hp, ← hw3, hszL]
          exact owns_of_block O2 (fun k hk => Below.heap_setCell w2 _ _ k (fun e => has_ne_of_row O2 X2 hk e))
        have KK := hDk.out.putted hg (w2 := w2) (w4 := w3) B2 k3.out (by rw [hw3]; exact But.refl _ _) (by rw [wr_nil hp, hszL]) O3 (wr_byt (by rw [← hLe]; exact (hDk.out.byt g hg).1) (fun x hx => by cases hx))
        have D4 := hide KK.1
        have b4 := hide KK.2
        have hpi : (p : Int) ≤ (sz : Int) := by omega
        have hci : (sz : Int) ≤ (cp : Int) := by omega
        have hsz1 : Hid ((Try.prog.info? 5).map (·.size) = some 1) := by
          obtain ⟨i0, hi, hz0, hz1, hz2⟩ := info_parts info5
          show (Try.prog.info? 5).map (·.size) = some 1
          simp [hi, hz1]
        rw [hw3] at r0 HB3
        replace hszL := hide hszL
        clear O2 B2 D2 X2 X3 O3 KK k2 k3
        rw [hw3]
        clear hw3
        by_cases hcp : cp = p
        all_goals
          go_upto_region 9 with (refine wpList_copy_nothing rfl (.tmp 61) (.tmp 62) 23 23 rfl 5 Try.underlying23 hsz1.out _ _ _ _ _ _ rfl rfl (by simp) ?_)
          have D5 := hide (D4.out.disk (m' := { m with ct := upd m.ct g (wr L p [], (m.ct g).2), used := U2 }) (but_setCell w3 d 6 (.int .i64 U2)) (D4.out.dk.set1 6 (.int .i64 U2)) rfl rfl rfl rfl rfl)
          have b5 : Hid (But T w (w3.setCell ⟨d, 6, none⟩ (.int .i64 U2))) := b4.out.setCell (fun _ => hDk.out.td) _
          obtain ⟨t0, t1, t2, t3, t4, t5, t6⟩ := D4.out.cs
          have z6 := D4.out.dk.fz 6
          clear D4 b4
          go_wp2_with fail
          refine (done_any D5.out hm.hl hm.hs).mono ?_
          rintro e w6 ⟨rfl, D6, b6⟩
          replace D6 := hide D6
          replace b6 := hide (b5.out.trans (hDk.out.toT b6) (fun _ _ e => e))
          clear D5 b5
          go_wp2_with fail
          go_ret
          refine ⟨0, _, _, rfl, ⟨bf, bs, _, D6.out⟩, ⟨b6.out, fun x hx => by rcases hx with hx | hx; exact .inl hx; exact .inr hx.1⟩, .inr ⟨rfl, ⟨by rw [eM.out]; exact h4, by rw [eU.out]; exact hro⟩, ?_⟩⟩
          rw [eU.out, hLe]

      · have hlp : 0 < lb := by omega
        have hszp : p + lb ≤ sz := by have := hsz.out; omega
        obtain ⟨r, cur, ha2, hXr, hcs, hcm, htk⟩ : ∃ r cur, a2 = some ⟨r, 0, none⟩ ∧ Bx w2 r 5 cur ∧ cur.size = cp ∧ cp ≤ maxLen ∧ cur.toList.take L.length = u8s L := by
          rcases O2.2 with ⟨e, hh⟩ | ⟨r, cap, cur, e, _, hb, h1, h2, h3, h4⟩
          · simp only [Value.slice.injEq] at e
            omega
          · simp only [Value.slice.injEq] at e
            obtain ⟨rfl, _, rfl⟩ := e
            exact ⟨r, cur, rfl, hb, by simpa using h3, h2, by simpa using h4⟩
        subst ha2
        have hrg : r ≠ g := by
          rintro rfl
          have := (hXr.typ X2).1
          cases this
        have X3r : Hid (Bx w3 r 5 cur) := by
          rw [← hw3]
          exact (Below.heap_setCell w2 _ _ r hrg).trans hXr
        have hpi : (p : Int) ≤ (sz : Int) := by omega
        have hci : (sz : Int) ≤ (cp : Int) := by omega
        have hn1 : cp ≠ p := by omega
        have hn2 : ¬ (cp = p) := by omega
        have etk : Hid (B.take (sz - p) = B) := List.take_of_length_le (by omega)
        have hBb : Hid (Byt B) := hB.out.bytes
        have hszh := hide hszp
        have hfit : Hid (p + (sz - p) ≤ cur.size) := by show p + (sz - p) ≤ cur.size; omega
        replace hcs := hide hcs
        replace htk := hide htk
        replace O2 := hide O2
        replace B2 := hide B2
        replace X2 := hide X2
        replace D2 := hide D2
        rw [hw3] at r0 HB3
        rw [hw3]
        replace hw3 := hide hw3
        clear X3 hXr k2 n1 n2 hrg
        go_upto_region 9 with (refine wpList_copyAt rfl (.tmp 61) (.tmp 62) rfl r p (sz - p) (cp - p) rfl cur X3r.out hfit.out ab lb cb B rfl HB3.out ?_; intro w4 X4 bb4)
        have KK := hDk.out.putted hg (w2 := w2) (w4 := w4) (l1 := wr L p B) (sz := sz) (c2 := cp) B2.out k3.out (by rw [hw3.out]; exact bb4.mono (fun k e => by rw [e]; rfl)) (by rw [wr_length B hp, hbl]; exact hsz.out.symm)
          ⟨by rw [List.length_map, wr_length B hp, hbl, Nat.mul_one]; exact hsz.out.symm, .inr ⟨r, cp, _, rfl, Nat.zero_le _, X4, hc2, hcm, by
            rw [etk.out]; simp; have := hcs.out; omega, by
            rw [etk.out, Nat.mul_one]
            exact wr_row hp (by rw [hbl]; exact hsz.out) (by have := hcs.out; simp; omega) htk.out rfl⟩⟩
          (wr_byt (by rw [← hLe]; exact (hDk.out.byt g hg).1) hBb.out)
        have D4 := hide KK.1
        have b4 := hide KK.2
        clear KK X4 bb4 X3r r0 HB3
        have D5 := hide (D4.out.disk (m' := { m with ct := upd m.ct g (wr L p B, (m.ct g).2), used := U2 }) (but_setCell w4 d 6 (.int .i64 U2)) (D4.out.dk.set1 6 (.int .i64 U2)) rfl rfl rfl rfl rfl)
        have b5 : Hid (But T w (w4.setCell ⟨d, 6, none⟩ (.int .i64 U2))) := b4.out.setCell (fun _ => hDk.out.td) _
        obtain ⟨t0, t1, t2, t3, t4, t5, t6⟩ := D4.out.cs
        have z6 := D4.out.dk.fz 6
        clear D4 b4
        go_wp2_with fail
        refine (done_any D5.out hm.hl hm.hs).mono ?_
        rintro e w6 ⟨rfl, D6, b6⟩
        replace D6 := hide D6
        replace b6 := hide (b5.out.trans (hDk.out.toT b6) (fun _ _ e => e))
        clear D5 b5
        go_wp2_with fail
        go_ret
        refine ⟨0, _, _, rfl, ⟨bf, bs, _, D6.out⟩, ⟨b6.out, fun x hx => by rcases hx with hx | hx; exact .inl hx; exact .inr hx.1⟩, .inr ⟨rfl, ⟨by rw [eM.out]; exact h4, by rw [eU.out]; exact hro⟩, ?_⟩⟩
        rw [eU.out, hLe]

    · have i5 : m.room < U2 := by omega
      go_enter Try.func44, Try.ntmps44
      go_wp2_with fail
      refine reg44_4 w d g sz m.used (S1 : Int) (S2 : Int) c6 hw1.out hw2.out P1.out P2.out _ _ _ _ _ _ _ _ _ _ _ _ _ _ _ _ _ _ _ _ _ _ _ _ _ _ _ _ _ _ _ _ _ _ _ _ _ _ _ _ _ _ _ _ _ _ _ _ _ _ _ _ _ _ _ _ _ _ _ _ _ _ _ _ _ _ _ _ _ _ ?_
      rw [hU2.out]
      have D1 := hide hDk.out.drew
      obtain ⟨q0, q1, q2, q3, q4, q5, q6⟩ := D1.out.cs
      go_wp2_with fail
      go_ret
      refine ⟨4, m, T, rfl, ⟨bf, bs, V, D1.out⟩, up_same ((But.refl T w).drew), .inl ⟨by decide, rfl, fun hh => ?_⟩⟩
      have := hh.2
      rw [eU.out] at this
      omega
  · have i4 : (4194304 : Int) < (sz : Int) := by omega
    replace h := hide h
    replace hsz := hide hsz
    replace H1 := hide H1
    replace hB := hide hB
    go_enter Try.func44, Try.ntmps44
    go_wp2_with fail
    go_ret
    refine ⟨3, m, T, rfl, ⟨bf, bs, V, h.out⟩, Up.refl _ _, .inl ⟨by decide, rfl, fun hh => ?_⟩⟩
    have := hh.1
    rw [hLe, hbl] at this
    have := hsz.out
    omega
end
end Go.Proofs.Ytgbijkdfhkkieaa
