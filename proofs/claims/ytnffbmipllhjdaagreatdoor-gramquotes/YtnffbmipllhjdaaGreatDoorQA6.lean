/-
  What GramQuotes stands on, part 6 (of: He Hf Hg Hh Hi Hj).
-/
import Derived.Test.YtnffbmipllhjdaaGreatDoorQA5
import Derived.Shelf.Small.Strs
import Derived.Lib.IndexAny
namespace Go.Proofs.YtnffbmipllhjdaaGreatDoor.G
open Go.RowKit Go.Shelf
set_option linter.unusedVariables false
set_option linter.unusedSimpArgs false

def insT (x : Tx) : List Tx → List Tx
  | [] => [x]
  | y :: r => if x ≤ y then x :: y :: r else y :: insT x r
def isrt : List Tx → List Tx
  | [] => []
  | x :: r => insT x (isrt r)
theorem mem_insT {x z : Tx} : ∀ {l : List Tx}, z ∈ insT x l ↔ z = x ∨ z ∈ l
  | [] => by simp [insT]
  | y :: r => by
    unfold insT
    split
    · simp
    · rw [List.mem_cons, mem_insT (l := r), List.mem_cons]
      exact ⟨fun h => h.elim (fun h => .inr (.inl h)) (fun h => h.elim .inl (fun h => .inr (.inr h))), fun h => h.elim (fun h => .inr (.inl h)) (fun h => h.elim .inl (fun h => .inr (.inr h)))⟩
theorem lt_of_le_ne {a b : Tx} (h : a ≤ b) (hn : a ≠ b) : a < b := by
  rcases List.le_iff_lt_or_eq.1 h with h | h
  · exact h
  · exact absurd h hn
theorem asc_insT {x : Tx} : ∀ {l : List Tx}, Asc l → x ∉ l → Asc (insT x l)
  | [], _, _ => by simp [insT, Asc]
  | y :: r, h, hx => by
    have h2 := List.pairwise_cons.1 h
    unfold insT
    split
    · rename_i hle
      refine List.pairwise_cons.2 ⟨fun z hz => ?_, h⟩
      have hxy := lt_of_le_ne hle (fun e => hx (by simp [e]))
      rcases List.mem_cons.1 hz with rfl | hz
      · exact hxy
      · exact List.lt_trans hxy (h2.1 z hz)
    · rename_i hle
      refine List.pairwise_cons.2 ⟨fun z hz => ?_, asc_insT h2.2 (fun e => hx (by simp [e]))⟩
      rcases mem_insT.1 hz with rfl | hz
      · exact List.not_le.1 hle
      · exact h2.1 z hz
theorem mem_isrt {z : Tx} : ∀ {l : List Tx}, z ∈ isrt l ↔ z ∈ l
  | [] => Iff.rfl
  | x :: r => by rw [isrt, mem_insT, mem_isrt (l := r), List.mem_cons]
theorem asc_isrt : ∀ {l : List Tx}, l.Nodup → Asc (isrt l)
  | [], _ => by simp [isrt, Asc]
  | x :: r, h => by
    have h2 := List.nodup_cons.1 h
    exact asc_insT (asc_isrt h2.2) (fun e => h2.1 (mem_isrt.1 e))
def upsC (l : List Tx) : List Tx := isrt (dis [] l)
theorem ups_c : ups = upsC := funext fun l => asc_ext (ups_asc l) (asc_isrt (dis_nodup l [])) (fun x => by rw [mem_ups]; unfold upsC; rw [mem_isrt, mem_dis]; simp)
def gramsC (s : Tx) : List Tx := upsC (winds s)
theorem grams_c : gramsOf = gramsC := funext fun s => by unfold gramsOf gramsC; rw [ups_c]
def bndC (l : List Tx) : Option (List Tx) := if (dis [] l).length ≤ 32 ∧ (∀ t ∈ l, t.length ≤ 32) then some (upsC l) else none
theorem bnd_c : bnd = bndC := funext fun l => by unfold bnd bndC; rw [ups_c]
def queryC (ts : List Tx) : Qy := tg 4 (ts.map (fun s => tg 3 ((gramsC s).map gramQ)))
theorem query_c : queryOf = queryC := funext fun l => by unfold queryOf queryC; rw [grams_c]
def Pt.askedC : Pt → Qy
  | .told ts => queryC ts
  | .ask q => q
theorem asked_c : Pt.asked = Pt.askedC := funext fun p => by cases p <;> simp [Pt.asked, Pt.askedC, query_c]
def longGC : List Tx → List Pt → List Tx × Nat
  | ts, [] => (ts, 0)
  | ts, .ask _ :: _ => (ts, 0)
  | ts, .told p :: r => match bndC (joinL ts p) with
    | none => (ts, 0)
    | some m => ((longGC m r).1, (longGC m r).2 + 1)
theorem longG_c : ∀ (l : List Pt) (ts : List Tx), longG ts l = longGC ts l
  | [], ts => rfl
  | .ask q :: r, ts => rfl
  | .told p :: r, ts => by
    cases h : bnd (joinL ts p) with
    | none => rw [longG_none h]; unfold longGC; rw [← bnd_c, h]
    | some m => rw [longG_some h]; unfold longGC; rw [← bnd_c, h]; simp only []; rw [longG_c r m]
def longestC (l : List Pt) : List Tx × Nat := longGC [[]] l
theorem longest_c : longest = longestC := funext fun l => longG_c l _
def piecesC : Nat → List Pt → List Qy
  | 0, _ => []
  | _ + 1, [] => []
  | f + 1, p :: r => if (longestC (p :: r)).2 = 0 then p.q :: piecesC f r else queryC (longestC (p :: r)).1 :: piecesC f ((p :: r).drop (longestC (p :: r)).2)
theorem pieces_c : ∀ (f : Nat) (l : List Pt), pieces f l = piecesC f l
  | 0, _ => rfl
  | _ + 1, [] => rfl
  | f + 1, p :: r => by unfold pieces piecesC; rw [longest_c, query_c, pieces_c f, pieces_c f]
def allOfC (l : List Pt) : Pt := if (longestC l).2 = l.length then .told (longestC l).1 else .ask (tg 3 (piecesC l.length l))
theorem allOf_c : allOf = allOfC := funext fun l => by unfold allOf allOfC; rw [longest_c, pieces_c]
def oneOfC (l : List Pt) : Pt := match (unitedT l).bind bndC with
  | some ts => .told ts
  | none => .ask (tg 4 (l.map Pt.askedC))
theorem oneOf_c : oneOf = oneOfC := funext fun l => by unfold oneOf oneOfC; rw [bnd_c, asked_c]; rfl
def repeatedC (p : Pt) (mn mx : Int) : Pt :=
  if mn = mx ∧ (longestC (List.replicate mn.toNat p)).2 = mn.toNat then .told (longestC (List.replicate mn.toNat p)).1
  else if mn = 0 then .ask allQ else .ask p.askedC
theorem repeated_c : repeated = repeatedC := funext fun p => funext fun mn => funext fun mx => by unfold repeated repeatedC; rw [longest_c, asked_c]
def ptNC (n : Nd) (ps : List Pt) : Pt := if n.k = 2 then allOfC ps else if n.k = 3 then oneOfC ps else if n.k = 4 then repeatedC (ps.headD (.ask allQ)) n.mn n.mx else setPt n.s
theorem ptN_c : ptN = ptNC := funext fun n => funext fun ps => by unfold ptN ptNC; rw [allOf_c, oneOf_c, repeated_c]
def ptFC : Fo → List Pt
  | .nil => []
  | .cons n k r => ptNC n (ptFC k) :: ptFC r
theorem ptF_c : ∀ f : Fo, ptF f = ptFC f
  | .nil => rfl
  | .cons n k r => by unfold ptF ptFC; rw [ptN_c, ptF_c k, ptF_c r]
def ptTC (t : Tr) : Pt := ptNC t.1 (ptFC t.2)
theorem ptT_c (t : Tr) : ptT t = ptTC t := by unfold ptT ptTC; rw [ptN_c, ptF_c]
theorem askedT_c (t : Tr) : (ptT t).asked = (ptTC t).askedC := by rw [ptT_c, asked_c]
def px1 : ByteArray := ⟨#[97, 98, 99, 100, 124, 120, 121, 122]⟩
def px2 : ByteArray := ⟨#[97, 98, 42]⟩
def px3 : ByteArray := ⟨#[40, 97, 124, 98, 41, 99, 100, 46, 101, 102, 103]⟩
end Go.Proofs.YtnffbmipllhjdaaGreatDoor.G

namespace Go.Proofs.YtnffbmipllhjdaaGreatDoor.G
open Go.RowKit Go.Shelf
set_option linter.unusedVariables false
set_option linter.unusedSimpArgs false
attribute [local go_sem] Oper.semAt_some

def okSB (s : S4) : Bool := (List.range 4).all (fun k => decide (0 ≤ s.get k ∧ s.get k < 18446744073709551616))
theorem okS_b {s : S4} (h : okSB s = true) : OkS s := fun k hk => of_decide_eq_true (List.all_eq_true.1 h k (by simpa using hk))
def okFB : Fo → Bool
  | .nil => true
  | .cons n k r => okSB n.s && okFB k && okFB r
theorem okF_b : ∀ {f : Fo}, okFB f = true → okF f
  | .nil, _ => trivial
  | .cons n k r, h => by
    simp only [okFB, Bool.and_eq_true] at h
    exact ⟨okS_b h.1.1, okF_b h.1.2, okF_b h.2⟩
def okTB (t : Tr) : Bool := okSB t.1.s && okFB t.2
theorem okT_b {t : Tr} (h : okTB t = true) : okT t := by
  simp only [okTB, Bool.and_eq_true] at h
  exact ⟨okS_b h.1, okF_b h.2⟩
def fitQB (o : Int) (t : Tx) (m : Nat) : Bool := (decide (o = 0) || decide (o = 1)) && decide (t = []) && decide (m = 0) || decide (o = 2) && decide (t.length = 3) && decide (m = 0) || (decide (o = 3) || decide (o = 4)) && decide (t = [])
theorem fitQ_b {o : Int} {t : Tx} {m : Nat} : fitQB o t m = true ↔ fitQ o t m := by
  unfold fitQB fitQ
  simp only [Bool.or_eq_true, Bool.and_eq_true, decide_eq_true_eq, and_assoc, or_assoc]
def chkB (q : Qy) : Bool := (emsQ 1 (⟨q.op, q.tx⟩, q.l)).all (fun y => decide (y.1 ≤ 8) && fitQB y.2.1.o y.2.1.t y.2.2)
theorem chk_b {q : Qy} : chkB q = true ↔ chkQ q := by
  unfold chkB chkQ
  rw [List.all_eq_true]
  refine forall_congr' fun y => imp_congr_right fun _ => ?_
  rw [Bool.and_eq_true, decide_eq_true_eq, fitQ_b]
def lookX (p : ByteArray) (out : Tx) : Bool := match parseM p with
  | .ok t => okTB t && decide (szT t ≤ 99) && chkB (ptTC t).askedC && decide ((ptTC t).askedC.sz ≤ 4096) && decide ((ptTC t).askedC.tell = out)
  | _ => false
theorem lookX_ok {p : ByteArray} {out : Tx} (h : lookX p out = true) : ∃ t, parseM p = .ok t ∧ okT t ∧ szT t ≤ 99 ∧ chkQ (ptT t).asked ∧ (ptT t).asked.sz ≤ 4096 ∧ (ptT t).asked.tell = out := by
  unfold lookX at h
  cases hp : parseM p with
  | error e => rw [hp] at h; cases h
  | ok t =>
    rw [hp] at h
    simp only [Bool.and_eq_true, decide_eq_true_eq] at h
    refine ⟨t, rfl, ?_⟩
    rw [askedT_c]
    exact ⟨okT_b h.1.1.1.1, h.1.1.1.2, chk_b.1 h.1.1.2, h.1.2, h.2⟩
def out1 : Tx := [91, 40, 124, 97, 98, 99, 124, 32, 124, 98, 99, 100, 124, 41, 32, 124, 120, 121, 122, 124, 93]
def out2 : Tx := [42]
def out3 : Tx := [40, 91, 124, 97, 99, 100, 124, 32, 124, 98, 99, 100, 124, 93, 32, 124, 101, 102, 103, 124, 41]
set_option maxRecDepth 100000 in
theorem look1 : lookX px1 out1 = true := by decide +kernel
set_option maxRecDepth 100000 in
theorem look2 : lookX px2 out2 = true := by decide +kernel
set_option maxRecDepth 100000 in
theorem look3 : lookX px3 out3 = true := by decide +kernel
set_option maxHeartbeats 4000000 in
set_option maxRecDepth 100000 in
theorem toldS_any (s : ByteArray) (out : Tx) (h : lookX s out = true) (hs : s.size ≤ 40) (w : World) (hT : Tab w) :
    Calls Tryz.prog 51 #[.string s] w fun e w' => e = .returned (encStr out) ∧ Below w.heap.size w w' := by
  obtain ⟨t, hp, ho, hz, hc, hq, htl⟩ := lookX_ok h
  have hg := parse_good s
  rw [hp] at hg
  obtain ⟨hf, _, hd⟩ := hg
  have PA := hide (parse_any s w hT)
  replace ho := hide ho
  replace hc := hide hc
  replace hf := hide hf
  clear h
  go_enter Tryz.func51, Tryz.ntmps51
  go_wp2_with (go_at_call 31; refine PA.out.mono ?_)
  intro e w1 hR
  obtain ⟨B1, ⟨h1, _⟩ | ⟨_, ⟨p, h2, _⟩ | ⟨x, t', h2, he, T⟩⟩⟩ := hR
  · omega
  · rw [hp] at h2; cases h2
  · rw [hp] at h2
    cases h2
    subst he
    obtain ⟨va, vn, vc, rfl⟩ := T.val
    have TH := hide T
    have H := St.start Nope w1
    have FR := hide (fun (w' : World) (hb : Below w1.heap.size w1 w') => from_any t _ _ w' (TH.out.kept (fun b _ hl => hb.block b hl)) hf.out ho.out hz (by omega))
    replace hp := hide hp
    clear T PA
    go_wp2_with (first | ((with_reducible refine at_alloc 27 ?_); refine wl_alloc28 H ?_; clear H; intro g1 w2 H q1 q2) | ((with_reducible refine at_store 27 ?_); refine wl_store28 0 H rfl rfl rfl rfl ?_; clear H; intro w3 H; have hb3 := H.below) | ((with_reducible refine at_load 27 ?_); refine wl_load28 0 H rfl rfl ?_) | (go_at_call 10; refine (FR.out _ hb3).mono ?_))
    rintro e w4 ⟨z, rfl, hqv, B4⟩
    obtain ⟨xa, xm, xc, rfl⟩ := hqv.slice
    have H4 := St.start Nope w4
    have b4 := hide (hb3.trans (B4.mono hb3.size))
    have TX := hide (fun (w' : World) (hb : Below w4.heap.size w4 w') => text_any (ptT t).asked hq (fun b => w3.heap.size ≤ b ∧ b < w4.heap.size) _ w' ((hqv.mono (fun b hb hp => ⟨hp, hb⟩)).kept (fun b hp _ => hb.block b hp.2)))
    clear H B4 FR hqv
    go_wp2_with (first | ((with_reducible refine at_alloc 30 ?_); refine wl_alloc30 H4 ?_; clear H4; intro g5 w5 H4 q3 q4) | ((with_reducible refine at_store 30 ?_); refine wl_store30 0 H4 rfl rfl rfl rfl ?_; clear H4; intro w6 H4; have hb6 := H4.below) | ((with_reducible refine at_load 30 ?_); refine wl_load30 0 H4 rfl rfl ?_) | (go_at_call 19; refine (TX.out _ hb6).mono ?_))
    rintro e w7 ⟨tt, rfl, hr, B7⟩
    have b7 := hide (B1.trans ((b4.out.trans ((hb6.trans (B7.mono hb6.size)).mono b4.out.size)).mono B1.size))
    have ett : Hid (tt = out) := by
      rcases hr with ⟨_, e⟩ | ⟨e, _⟩
      · exact e.trans htl
      · exact absurd hc.out e
    clear H4 B7 TX hr B1
    go_wp2
    go_ret
    exact ⟨by rw [ett.out]; rfl, b7.out⟩
set_option maxHeartbeats 4000000 in
set_option maxRecDepth 100000 in
theorem works_any (w : World) (hT : Tab w) : Calls Tryz.prog 21 #[] w fun e w' => e = .returned (.bool true) ∧ Below w.heap.size w w' := by
  have F1 := hide (toldS_any px1 out1 look1 (by decide) w hT)
  have hTh := hide hT
  clear hT
  go_enter Tryz.func21, Tryz.ntmps21
  go_wp2_with (go_at_call 51; refine F1.out.mono ?_)
  rintro e w1 ⟨rfl, B1⟩
  have F2 := hide (toldS_any px2 out2 look2 (by decide) w1 (hTh.out.below B1))
  replace B1 := hide B1
  go_wp2_with (go_at_call 51; refine F2.out.mono ?_)
  rintro e w2 ⟨rfl, B2⟩
  have B12 : Hid (Below w.heap.size w w2) := B1.out.trans (B2.mono B1.out.size)
  have F3 := hide (toldS_any px3 out3 look3 (by decide) w2 (hTh.out.below B12.out))
  clear B2 F2
  go_wp2_with (go_at_call 51; refine F3.out.mono ?_)
  rintro e w3 ⟨rfl, B3⟩
  have B13 : Hid (Below w.heap.size w w3) := B12.out.trans (B3.mono B12.out.size)
  clear B3 F3
  go_wp2
  go_ret
  exact ⟨rfl, B13.out⟩
end Go.Proofs.YtnffbmipllhjdaaGreatDoor.G

namespace Go.Proofs.YtnffbmipllhjdaaGreatDoor.Q
open Go.RowKit Go.Shelf Go.Lib
set_option linter.unusedVariables false
set_option linter.unusedSimpArgs false

shelf_lay Lays.n137 Nm 137 at Tryz as Tryz.laysIX
theorem ix_any (s : ByteArray) (c : Int) (w : World) : Calls Tryz.prog 72 #[.string s, .int .u8 c] w fun e w' => e = .returned (.int .i64 (Lib.indexByte s.data.toList c.toNat.toUInt8)) ∧ w' = w :=
  Any.strings_IndexByte Tryz.laysIX s c w
theorem letter_any (c : Int) (w : World) : Calls Tryz.prog 70 #[.int .u8 c] w fun e w' => e = .returned (.bool (isLet c)) ∧ w' = w := by
  by_cases h1 : 97 ≤ c <;> by_cases h2 : c ≤ 122 <;> by_cases h3 : 65 ≤ c <;> by_cases h4 : c ≤ 90
  all_goals first | (exfalso; omega) | skip
  all_goals
    simp only [isLet, h1, h2, h3, h4, decide_true, decide_false, Bool.and_true, Bool.true_and, Bool.and_false, Bool.false_and, Bool.or_true, Bool.true_or, Bool.or_false, Bool.false_or]
    go_enter Tryz.func70, Tryz.ntmps70
    go_wp2
    go_ret
    exact ⟨by first | rfl | simp, rfl⟩
/-- The other bytes that stand for themselves. -/
def plS : ByteArray := ⟨#[95, 44, 58, 59, 60, 61, 62, 64, 33, 34, 35, 37, 38, 39, 126]⟩
/-- A byte that stands for itself. -/
def plB (c : UInt8) : Bool := isLet (c.toNat : Int) || isDig (c.toNat : Int) || plS.data.toList.contains c
/-- The digits to the base 16. -/
def dgS : ByteArray := ⟨#[48, 49, 50, 51, 52, 53, 54, 55, 56, 57, 97, 98, 99, 100, 101, 102]⟩
def dg (n : Nat) : UInt8 := dgS.data.toList.getD n 0
def qc (c : UInt8) : List UInt8 := if plB c = true then [c] else [92, 120, dg (c.toNat / 16), dg (c.toNat % 16)]
def quo (l : List UInt8) : List UInt8 := l.flatMap qc
theorem quo_snoc (l : List UInt8) (c : UInt8) : quo (l ++ [c]) = quo l ++ qc c := by simp [quo]
theorem quo_len (l : List UInt8) : (quo l).length ≤ 4 * l.length := by
  induction l with
  | nil => simp [quo]
  | cons a l ih =>
    have h1 : (qc a).length ≤ 4 := by unfold qc; split <;> simp
    have h2 : quo (a :: l) = qc a ++ quo l := by simp [quo]
    rw [h2]; simp; omega
theorem u8_lt (c : UInt8) : c.toNat < 256 := UInt8.toNat_lt c
theorem dig_at {n : Nat} (hn : n < 16) (h : n < (⟨#[48, 49, 50, 51, 52, 53, 54, 55, 56, 57, 97, 98, 99, 100, 101, 102]⟩ : ByteArray).size) : ((⟨#[48, 49, 50, 51, 52, 53, 54, 55, 56, 57, 97, 98, 99, 100, 101, 102]⟩ : ByteArray)[n]'h) = dg n := by
  have : ∀ n : Fin 16, dgS.data[n.1]? = some (dg n.1) := by decide +kernel
  have h2 := this ⟨n, hn⟩
  obtain ⟨h3, h4⟩ := Array.getElem?_eq_some_iff.1 h2
  exact h4
theorem u8_back (c : UInt8) : ((c.toNat : Int).toNat.toUInt8) = c := by
  rw [Int.toNat_natCast]; exact UInt8.ofNat_toNat
set_option maxHeartbeats 4000000 in
theorem quote_any (s : ByteArray) (hs : s.size ≤ 256) (w : World) :
    Calls Tryz.prog 32 #[.string s] w fun e w' => e = .returned (.string ⟨(quo s.data.toList).toArray⟩) ∧ Below w.heap.size w w' := by
  have hsl : s.data.toList.length = s.size := by rw [Array.length_toList]; rfl
  go_enter Tryz.func32, Tryz.ntmps32
  go_wp2
  go_loopw [8] (fun i wr => ∃ k : Nat, k ≤ s.size ∧ i = .int .i64 (k : Int) ∧ Hid (IsBuilder 133 5 w.heap.size w.heap.size (Go.Lib.byteCells (quo (s.data.toList.take k))) wr ∧ Below w.heap.size w wr)) (fun i _ => s.size - (RowKit.intOf i).toNat)
  case atStart => exact ⟨0, Nat.zero_le _, rfl, fresh_isBuilder 133 5 w, (Below.refl _ w).alloc (Nat.le_refl _) _⟩
  case round =>
    obtain ⟨k, hk, rfl, hR⟩ := hrel
    by_cases hlt : k < s.size
    · have i1 : (k : Int) < (s.size : Int) := by omega
      have hget : s.data.toList[k]? = some (s[k]'hlt) := by
        rw [List.getElem?_eq_getElem (by omega)]
        rfl
      have htk : Hid (s.data.toList.take (k + 1) = s.data.toList.take k ++ [s[k]'hlt]) := by
        show _ = _
        rw [List.take_add_one, hget]; rfl
      have hbs := hR.out.2.size
      have hq : Hid ((quo (s.data.toList.take k)).length ≤ 1024) := by
        have := quo_len (s.data.toList.take k)
        rw [List.length_take] at this
        exact (by omega : (quo (s.data.toList.take k)).length ≤ 1024)
      replace hget := hide hget
      go_wp2_with fail
      generalize s[k]'hlt = c at *
      have hcl := u8_lt c
      by_cases hp : plB c = true
      · have hqc : Hid (quo (s.data.toList.take (k + 1)) = quo (s.data.toList.take k) ++ [c]) := by
          show _ = _
          rw [htk.out, quo_snoc]; simp [qc, hp]
        have WB := hide (fun w1 h1 h2 => wb_any w.heap.size w.heap.size (quo (s.data.toList.take k)) c w1 h1 (by have := hq.out; omega) h2)
        cases hL : isLet (c.toNat : Int) with
        | true =>
          refine (letter_any _ _).mono ?_
          rintro e w1 ⟨rfl, rfl⟩
          rw [hL]
          go_wp2_with fail
          refine (WB.out _ hR.out.1 hbs).mono ?_
          rintro e w1 ⟨rfl, h1, B1, _⟩
          have hR1 := hide (And.intro h1 (hR.out.2.trans B1))
          clear h1 B1
          go_wp2
          go_roundw
          case rel => exact ⟨k + 1, by omega, by go_num, by rw [hqc.out]; exact hR1.out⟩
          case measure => simp [RowKit.intOf]; omega
        | false =>
          refine (letter_any _ _).mono ?_
          rintro e w1 ⟨rfl, rfl⟩
          rw [hL]
          go_wp2_with fail
          cases hD : isDig (c.toNat : Int) with
          | true =>
            refine (digit_any _ _).mono ?_
            rintro e w1 ⟨rfl, rfl⟩
            rw [hD]
            go_wp2_with fail
            refine (WB.out _ hR.out.1 hbs).mono ?_
            rintro e w1 ⟨rfl, h1, B1, _⟩
            have hR1 := hide (And.intro h1 (hR.out.2.trans B1))
            clear h1 B1
            go_wp2
            go_roundw
            case rel => exact ⟨k + 1, by omega, by go_num, by rw [hqc.out]; exact hR1.out⟩
            case measure => simp [RowKit.intOf]; omega
          | false =>
            refine (digit_any _ _).mono ?_
            rintro e w1 ⟨rfl, rfl⟩
            rw [hD]
            have hX : (0 : Int) ≤ indexByte plS.data.toList ((c.toNat : Int).toNat.toUInt8) := by
              have h1 := contains_iff_indexByte plS.data.toList c
              have h2 : plS.data.toList.contains c = true := by simpa [plB, hL, hD] using hp
              rw [h2] at h1
              rw [u8_back]
              exact of_decide_eq_true h1.symm
            go_wp2_with fail
            refine (ix_any plS _ _).mono ?_
            rintro e w1 ⟨rfl, rfl⟩
            generalize indexByte plS.data.toList ((c.toNat : Int).toNat.toUInt8) = ii at *
            go_wp2_with fail
            refine (WB.out _ hR.out.1 hbs).mono ?_
            rintro e w1 ⟨rfl, h1, B1, _⟩
            have hR1 := hide (And.intro h1 (hR.out.2.trans B1))
            clear h1 B1
            go_wp2
            go_roundw
            case rel => exact ⟨k + 1, by omega, by go_num, by rw [hqc.out]; exact hR1.out⟩
            case measure => simp [RowKit.intOf]; omega
      · have hL : isLet (c.toNat : Int) = false := by cases h : isLet (c.toNat : Int) <;> simp_all [plB]
        have hD : isDig (c.toNat : Int) = false := by cases h : isDig (c.toNat : Int) <;> simp_all [plB]
        have hX : ¬ (0 : Int) ≤ indexByte plS.data.toList ((c.toNat : Int).toNat.toUInt8) := by
          have h1 := contains_iff_indexByte plS.data.toList c
          have h2 : plS.data.toList.contains c = false := by cases h : plS.data.toList.contains c <;> simp_all [plB]
          rw [h2] at h1
          rw [u8_back]
          exact of_decide_eq_false h1.symm
        have hqc : Hid (quo (s.data.toList.take (k + 1)) = ((quo (s.data.toList.take k) ++ [92, 120]) ++ [dg (c.toNat / 16)]) ++ [dg (c.toNat % 16)]) := by
          show _ = _
          rw [htk.out, quo_snoc]; simp [qc, hp]
        refine (letter_any _ _).mono ?_
        rintro e w1 ⟨rfl, rfl⟩
        rw [hL]
        go_wp2_with fail
        refine (digit_any _ _).mono ?_
        rintro e w1 ⟨rfl, rfl⟩
        rw [hD]
        go_wp2_with fail
        refine (ix_any plS _ _).mono ?_
        rintro e w1 ⟨rfl, rfl⟩
        generalize indexByte plS.data.toList ((c.toNat : Int).toNat.toUInt8) = ii at *
        go_wp2_with fail
        refine (ws_any w.heap.size w.heap.size (quo (s.data.toList.take k)) ⟨#[92, 120]⟩ w1 hR.out.1 (by have := hq.out; show _ + 2 ≤ _; omega) hbs).mono ?_
        rintro e w2 ⟨rfl, h1, B1, _⟩
        have hR1 := hide (And.intro h1 (hR.out.2.trans B1))
        clear h1 B1
        go_wp2_with fail
        rw [dig_at (show c.toNat / 16 < 16 by omega)]
        refine (wb_any w.heap.size w.heap.size _ (dg (c.toNat / 16)) w2 hR1.out.1 (by have := hq.out; simp; omega) hR1.out.2.size).mono ?_
        rintro e w3 ⟨rfl, h1, B1, _⟩
        have hR2 := hide (And.intro h1 (hR1.out.2.trans B1))
        clear h1 B1
        go_wp2_with fail
        rw [dig_at (show c.toNat % 16 < 16 by omega)]
        refine (wb_any w.heap.size w.heap.size _ (dg (c.toNat % 16)) w3 hR2.out.1 (by have := hq.out; simp; omega) hR2.out.2.size).mono ?_
        rintro e w4 ⟨rfl, h1, B1, _⟩
        have hR3 := hide (And.intro h1 (hR2.out.2.trans B1))
        clear h1 B1
        go_wp2
        go_roundw
        case rel => exact ⟨k + 1, by omega, by go_num, by rw [hqc.out]; exact hR3.out⟩
        case measure => simp [RowKit.intOf]; omega
    · have i1 : ¬ (k : Int) < (s.size : Int) := by omega
      have ST := hide (st_any w.heap.size w.heap.size (quo (s.data.toList.take k)) wr hR.out.1 hR.out.2.size)
      have hkk : Hid (s.data.toList.take k = s.data.toList) := List.take_of_length_le (by omega)
      go_wp2_with fail
      refine ST.out.mono ?_
      rintro e w1 ⟨rfl, B1⟩
      go_wp2
      go_ret
      exact ⟨by rw [hkk.out]; rfl, hR.out.2.trans B1⟩
end Go.Proofs.YtnffbmipllhjdaaGreatDoor.Q

namespace Go.Proofs.YtnffbmipllhjdaaGreatDoor.Q
open Go.RowKit
set_option maxRecDepth 100000
set_option linter.unusedVariables false
set_option linter.unusedSimpArgs false

/-- The set of one byte. -/
def sg (c : UInt8) : S4 := span c.toNat c.toNat
def lvs : List UInt8 → Fo
  | [] => .nil
  | c :: l => .cons ⟨1, sg c, 0, 0⟩ .nil (lvs l)
theorem lvs_snoc (c : UInt8) : ∀ l, lvs (l ++ [c]) = (lvs l).snoc (leaf (sg c))
  | [] => rfl
  | a :: l => by simp [lvs, Fo.snoc, lvs_snoc c l]
theorem at_toList {s : ByteArray} {k : Nat} (h : k < s.size) : s.data.toList[k]? = some (s[k]'h) := by
  rw [List.getElem?_eq_getElem (show k < s.data.toList.length by rw [Array.length_toList]; exact h)]
  rfl
theorem bt_list (s : ByteArray) (k : Nat) : bt s k = ((s.data.toList.getD k 0).toNat : Int) := by
  unfold bt
  split
  · rename_i h
    rw [List.getD_eq_getElem?_getD, at_toList h]; rfl
  · rename_i h
    rw [List.getD_eq_getElem?_getD, List.getElem?_eq_none (by rw [Array.length_toList]; exact Nat.le_of_not_lt h)]; rfl
theorem bt_mid {s : ByteArray} {A B : List UInt8} (h : s.data.toList = A ++ B) (i : Nat) : bt s (A.length + i) = ((B.getD i 0).toNat : Int) := by
  rw [bt_list, h, List.getD_eq_getElem?_getD, List.getElem?_append_right (by omega), List.getD_eq_getElem?_getD, Nat.add_sub_cancel_left]
theorem all_bytes {p : UInt8 → Prop} (h : ∀ n : Fin 256, p (UInt8.ofNat n.1)) (c : UInt8) : p c := by
  have := h ⟨c.toNat, u8_lt c⟩
  rwa [show UInt8.ofNat c.toNat = c from UInt8.ofNat_toNat] at this
/-- What a byte is that stands for itself. -/
def okP (n : Nat) : Bool := decide (32 ≤ n) && decide (n ≤ 126) && !([124, 41, 40, 46, 91, 92, 123, 63, 43, 42].contains n) && !(bads.contains (n : Int))
theorem plain_ok (c : UInt8) (h : plB c = true) : okP c.toNat = true := by
  revert h
  exact all_bytes (p := fun c => plB c = true → okP c.toNat = true) (by decide +kernel) c
theorem okP_out {n : Nat} (h : okP n = true) : 32 ≤ n ∧ n ≤ 126 ∧ n ≠ 124 ∧ n ≠ 41 ∧ n ≠ 40 ∧ n ≠ 46 ∧ n ≠ 91 ∧ n ≠ 92 ∧ n ≠ 123 ∧ n ≠ 63 ∧ n ≠ 43 ∧ n ≠ 42 ∧ ¬ ((n : Int) ∈ bads) := by
  simp only [okP, Bool.and_eq_true, decide_eq_true_eq, Bool.not_eq_true', List.contains_eq_mem, decide_eq_false_iff_not] at h
  obtain ⟨⟨⟨h1, h2⟩, h3⟩, h4⟩ := h
  simp only [List.mem_cons, List.not_mem_nil, or_false, not_or] at h3
  exact ⟨h1, h2, h3.1, h3.2.1, h3.2.2.1, h3.2.2.2.1, h3.2.2.2.2.1, h3.2.2.2.2.2.1, h3.2.2.2.2.2.2.1, h3.2.2.2.2.2.2.2.1, h3.2.2.2.2.2.2.2.2.1, h3.2.2.2.2.2.2.2.2.2, h4⟩
theorem hx_dg : ∀ n : Fin 16, hx ((dg n.1).toNat : Int) = some (n.1 : Int) := by decide +kernel
theorem quo_cons (c : UInt8) (l : List UInt8) : quo (c :: l) = qc c ++ quo l := by simp [quo]
theorem quo_ge (l : List UInt8) : l.length ≤ (quo l).length := by
  induction l with
  | nil => simp [quo]
  | cons a l ih =>
    have h1 : 1 ≤ (qc a).length := by unfold qc; split <;> simp
    rw [quo_cons]; simp; omega
/-- The byte that comes next is no times. -/
theorem next_ok (l : List UInt8) : ((quo l).getD 0 0).toNat ≠ 123 ∧ ((quo l).getD 0 0).toNat ≠ 63 ∧ ((quo l).getD 0 0).toNat ≠ 43 ∧ ((quo l).getD 0 0).toNat ≠ 42 := by
  cases l with
  | nil => simp [quo]
  | cons c l =>
    rw [quo_cons]
    unfold qc
    split
    · rename_i h
      have := okP_out (plain_ok c h)
      simp only [List.cons_append, List.nil_append, List.getD_cons_zero]
      omega
    · simp
theorem times_none {s : ByteArray} {a : Nat} {n : Nat} (h : bt s a = (n : Int)) (h2 : n ≠ 123 ∧ n ≠ 63 ∧ n ≠ 43 ∧ n ≠ 42) : timesR s a = ((0, 0, 0), a, true) := by
  unfold timesR
  rw [h, if_neg (by omega), if_neg (by omega), if_neg (by omega), if_neg (by omega)]
theorem set_quo {s : ByteArray} {A l : List UInt8} {c : UInt8} (h : s.data.toList = A ++ (qc c ++ quo l)) :
    A.length < s.size ∧ bt s A.length ≠ 124 ∧ bt s A.length ≠ 41 ∧ bt s A.length ≠ 40 ∧ setR s A.length = (sg c, A.length + (qc c).length, true) := by
  have hsz : s.size = A.length + ((qc c).length + (quo l).length) := by
    have := congrArg List.length h
    rw [Array.length_toList] at this
    simpa using this
  have b := fun i => bt_mid h i
  by_cases hp : plB c = true
  · have hq : qc c = [c] := by simp [qc, hp]
    rw [hq] at b hsz
    rw [hq]
    have b0 := b 0
    simp only [List.cons_append, List.nil_append, List.getD_cons_zero, Nat.add_zero] at b0
    obtain ⟨h1, h2, h3, h4, h5, h6, h7, h8, h9, h10, h11, h12, h13⟩ := okP_out (plain_ok c hp)
    refine ⟨by simp at hsz; omega, by rw [b0]; omega, by rw [b0]; omega, by rw [b0]; omega, ?_⟩
    unfold setR plR
    rw [b0, if_neg (by omega), if_neg (by omega), if_neg (by omega), if_neg h13, if_neg (by omega)]
    rfl
  · have hq : qc c = [92, 120, dg (c.toNat / 16), dg (c.toNat % 16)] := by simp [qc, hp]
    rw [hq] at b hsz
    rw [hq]
    have b0 := b 0
    have b1 := b 1
    have b2 := b 2
    have b3 := b 3
    simp only [List.cons_append, List.nil_append, List.getD_cons_zero, List.getD_cons_succ, Nat.add_zero] at b0 b1 b2 b3
    have hc := u8_lt c
    have hh := hx_dg ⟨c.toNat / 16, by omega⟩
    have hl := hx_dg ⟨c.toNat % 16, by omega⟩
    simp only at hh hl
    have e0 : bt s A.length = 92 := b0
    have e1 : bt s (A.length + 1) = 120 := b1
    refine ⟨by simp at hsz; omega, by rw [e0]; omega, by rw [e0]; omega, by rw [e0]; omega, ?_⟩
    unfold setR escR hexR
    rw [e0, e1, if_neg (by omega), if_neg (by omega), if_pos rfl, if_pos rfl, b2, hh]
    simp only
    rw [show A.length + 2 + 1 = A.length + 3 from rfl, b3, hl]
    simp only
    have e : (((c.toNat / 16 : Nat) : Int) * 16 + ((c.toNat % 16 : Nat) : Int)).toNat = c.toNat := by omega
    rw [e]
    rfl
theorem seq_quo (br : Nat → Out) (q : ByteArray) : ∀ (l done : List UInt8) (n : Nat), q.data.toList = quo done ++ quo l → l.length < n → seqL br q n (lvs done) (quo done).length = .ok (lvs (done ++ l), q.size)
  | [], done, 0, _, hn => by simp at hn
  | [], done, n + 1, h, hn => by
    have hsz : q.size = (quo done).length := by
      have := congrArg List.length h
      rw [Array.length_toList] at this
      simpa [quo] using this
    unfold seqL
    rw [if_neg (by omega), List.append_nil, hsz]
  | c :: l, done, 0, _, hn => by simp at hn
  | c :: l, done, n + 1, h, hn => by
    rw [quo_cons] at h
    obtain ⟨h1, h2, h3, h4, h5⟩ := set_quo h
    have h' : q.data.toList = (quo done ++ qc c) ++ quo l := by rw [List.append_assoc]; exact h
    have hb := bt_mid h' 0
    rw [List.length_append, Nat.add_zero] at hb
    have ht := times_none hb (next_ok l)
    have ha : atomM br q (quo done).length = .ok (leaf (sg c), (quo done).length + (qc c).length) := by
      unfold atomM
      rw [if_neg h4, h5]
      simp
    have hp : pieceM br q (quo done).length = .ok (leaf (sg c), (quo done).length + (qc c).length) := by
      unfold pieceM
      rw [ha]
      simp only
      rw [ht]
      simp
    have ih := seq_quo br q l (done ++ [c]) n (by rw [quo_snoc]; exact h') (by simp at hn; omega)
    unfold seqL
    rw [if_pos ⟨h1, h2, h3⟩, hp]
    simp only
    rw [lvs_snoc, quo_snoc, List.length_append] at ih
    rw [ih, List.append_assoc]
    rfl
theorem tog_one (k : Int) (t : Tr) : tog k (Fo.nil.snoc t) = t := rfl
/-- A quoted text is read as its bytes. -/
theorem parse_quo (l : List UInt8) : parseM ⟨(quo l).toArray⟩ = .ok (tog 2 (lvs l)) := by
  obtain ⟨q, hq⟩ : ∃ q : ByteArray, q = ⟨(quo l).toArray⟩ := ⟨_, rfl⟩
  rw [← hq]
  have hd : q.data.toList = quo [] ++ quo l := by rw [hq]; simp [quo]
  have hsz : q.size = (quo l).length := by rw [hq]; simp [ByteArray.size]
  have hs := seq_quo (brM q 32) q l [] (q.size + 1) hd (by have := quo_ge l; omega)
  have hs2 : seqM (brM q 32) q 0 = .ok (tog 2 (lvs l), q.size) := by
    unfold seqM
    have : seqL (brM q 32) q (q.size + 1 - 0) .nil 0 = .ok (lvs l, q.size) := hs
    rw [this]
  have hb : bt q q.size = 0 := by unfold bt; rw [dif_neg (by omega)]
  have ha : altM (brM q 32) q 0 = .ok (tog 2 (lvs l), q.size) := by
    unfold altM
    rw [hs2]
    simp only
    rw [show q.size + 1 - q.size = 1 by omega]
    unfold altL
    rw [hb, if_neg (by omega)]
    simp only
    rw [tog_one]
  unfold parseM
  rw [ha]
  simp
end Go.Proofs.YtnffbmipllhjdaaGreatDoor.Q

namespace Go.Proofs.YtnffbmipllhjdaaGreatDoor.G
open Go.RowKit Go.Shelf
set_option linter.unusedVariables false
set_option linter.unusedSimpArgs false

theorem sg_in : ∀ c b : Fin 256, inS (Q.sg (UInt8.ofNat c.1)) b.1 = decide (b.1 = c.1) := by decide +kernel
theorem sg_inS (c : UInt8) (b : Nat) (hb : b < 256) : inS (Q.sg c) b = decide (b = c.toNat) := by
  have := sg_in ⟨c.toNat, c.toNat_lt⟩ ⟨b, hb⟩
  simpa using this
theorem sg_ok : ∀ c : Fin 256, okSB (Q.sg (UInt8.ofNat c.1)) = true := by decide +kernel
theorem sg_okS (c : UInt8) : OkS (Q.sg c) := by
  have := sg_ok ⟨c.toNat, c.toNat_lt⟩
  exact okS_b (by simpa using this)
theorem setTo_sg (c : UInt8) : ∀ k, k ≤ 256 → setTo (Q.sg c) k = if c.toNat < k then [[c]] else []
  | 0, _ => by simp [setTo]
  | k + 1, h => by
    rw [setTo_step, setTo_sg c k (by omega), sg_inS c k (by omega)]
    by_cases h1 : k = c.toNat
    · subst h1
      simp
    · rw [if_neg (by simpa using h1)]
      by_cases h2 : c.toNat < k
      · rw [if_pos h2, if_pos (by omega)]
      · rw [if_neg h2, if_neg (by omega)]
theorem setPt_sg (c : UInt8) : setPt (Q.sg c) = .told [[c]] := by
  have hc := c.toNat_lt
  unfold setPt
  rw [setTo_sg c 256 (Nat.le_refl _), if_pos hc]
  simp
theorem lvs_ok : ∀ l : List UInt8, okF (Q.lvs l)
  | [] => trivial
  | c :: l => ⟨sg_okS c, trivial, lvs_ok l⟩
theorem lvs_pt : ∀ l : List UInt8, ptF (Q.lvs l) = l.map (fun c => .told [[c]])
  | [] => rfl
  | c :: l => by
    simp only [Q.lvs, ptF, List.map_cons, lvs_pt l]
    congr 1
    simp [ptN, setPt_sg]
theorem lvs_sz : ∀ l : List UInt8, (Q.lvs l).sz = l.length
  | [] => rfl
  | c :: l => by simp [Q.lvs, Fo.sz, lvs_sz l]; omega
theorem tog_lvs (l : List UInt8) : (∃ c, l = [c] ∧ tog 2 (Q.lvs l) = leaf (Q.sg c)) ∨ tog 2 (Q.lvs l) = (⟨2, noSet, 0, 0⟩, Q.lvs l) := by
  match l with
  | [] => exact .inr rfl
  | [c] => exact .inl ⟨c, rfl, rfl⟩
  | a :: b :: r => exact .inr rfl
theorem quo_okT (l : List UInt8) : okT (tog 2 (Q.lvs l)) := by
  rcases tog_lvs l with ⟨c, _, e⟩ | e
  · rw [e]; exact ⟨sg_okS c, trivial⟩
  · rw [e]; exact ⟨noSet_ok, lvs_ok l⟩
theorem quo_sz (l : List UInt8) (h : l.length ≤ 32) : szT (tog 2 (Q.lvs l)) ≤ 99 := by
  rcases tog_lvs l with ⟨c, _, e⟩ | e
  · rw [e]; show 1 + 0 ≤ 99; omega
  · rw [e]; simp only [szT, lvs_sz]; omega
theorem asc_one (x : Tx) : Asc [x] := by simp [Asc]
theorem long_bytes : ∀ (l acc : Tx), acc.length + l.length ≤ 32 → longG [acc] (l.map (fun c => .told [[c]])) = ([acc ++ l], l.length)
  | [], acc, _ => by simp [longG]
  | c :: r, acc, h => by
    have h1 : joinL [acc] [[c]] = [acc ++ [c]] := by simp [joinL]
    have h2 : bnd (joinL [acc] [[c]]) = some [acc ++ [c]] := by
      rw [h1]
      refine bnd_of_bd ⟨by simp, fun t ht => ?_, asc_one _⟩
      rw [List.mem_singleton.1 ht]
      simp only [List.length_append, List.length_cons, List.length_nil] at h ⊢
      omega
    rw [List.map_cons, longG_some h2, long_bytes r (acc ++ [c]) (by simp only [List.length_append, List.length_cons, List.length_nil] at h ⊢; omega)]
    simp
theorem quo_told (l : List UInt8) (h : l.length ≤ 32) : ptT (tog 2 (Q.lvs l)) = .told [l] := by
  rcases tog_lvs l with ⟨c, rfl, e⟩ | e
  · rw [e]
    simp [ptT, ptN, leaf, setPt_sg]
  · rw [e]
    have h1 : ptT (⟨2, noSet, 0, 0⟩, Q.lvs l) = allOf (l.map (fun c => .told [[c]])) := by simp [ptT, ptN, lvs_pt]
    rw [h1]
    unfold allOf longest
    rw [long_bytes l [] (by simpa using h)]
    simp
theorem disBy_nodup {α β : Type} [DecidableEq β] (f : α → β) : ∀ (l : List α) (had : List β), (l.map f).Nodup → (∀ x ∈ l, f x ∉ had) → disBy f had l = l
  | [], _, _, _ => by simp [disBy]
  | x :: r, had, hn, hh => by
    have h2 := List.nodup_cons.1 hn
    rw [disBy, if_neg (hh x (by simp)), disBy_nodup f r (f x :: had) h2.2 (fun y hy hm => ?_)]
    rcases List.mem_cons.1 hm with e | e
    · exact h2.1 (e ▸ List.mem_map_of_mem hy)
    · exact hh y (by simp [hy]) e
theorem gram_inj {g h : Tx} (e : (gramQ g).tell = (gramQ h).tell) : g = h := by
  simp [Qy.tell, tellN, gramQ] at e
  exact e
theorem tg3_grams (G : List Tx) (hn : G.Nodup) : tg 3 (G.map gramQ) = leftQ 0 3 (G.map gramQ) := by
  have h1 : openQ 3 (G.map gramQ) = G.map gramQ := by
    unfold openQ
    rw [List.flatMap_map]
    induction G with
    | nil => rfl
    | cons a r ih =>
      rw [List.flatMap_cons, ih (List.nodup_cons.1 hn).2]
      simp [gramQ]
  have h2 : disBy Qy.tell [] (G.map gramQ) = G.map gramQ := disBy_nodup _ _ _ (by
    rw [List.map_map]
    exact List.Pairwise.map _ (fun a b hab e => hab (gram_inj e)) hn) (by simp)
  unfold tg
  rw [h1, h2]
  have h3 : (G.map gramQ).find? (fun q => q.op = rulesO 3) = none := by
    rw [List.find?_eq_none]
    intro x hx
    obtain ⟨g, _, rfl⟩ := List.mem_map.1 hx
    simp [gramQ, rulesO]
  rw [h3]
  have h4 : (G.map gramQ).filter (fun q => q.op ≠ goesO 3) = G.map gramQ := by
    rw [List.filter_eq_self]
    intro x hx
    obtain ⟨g, _, rfl⟩ := List.mem_map.1 hx
    simp [gramQ, goesO]
  rw [h4]
  rfl
theorem tg4_one {q : Qy} (h : q.op = 0 ∨ q.op = 2 ∨ q.op = 3) : tg 4 [q] = q := by
  have h1 : openQ 4 [q] = [q] := by
    unfold openQ
    simp
    omega
  have h2 : disBy Qy.tell [] [q] = [q] := disBy_nodup _ _ _ (by simp) (by simp)
  unfold tg
  rw [h1, h2]
  by_cases h0 : q.op = 0
  · simp [rulesO, h0]
  · have h3 : [q].find? (fun q => q.op = rulesO 4) = none := by simp [rulesO, h0]
    rw [h3]
    have h4 : [q].filter (fun q => q.op ≠ goesO 4) = [q] := by
      rw [List.filter_eq_self]
      intro x hx
      rw [List.mem_singleton.1 hx]
      simp [goesO]
      omega
    rw [h4]
    rfl
/-- The query of one text. -/
def gq (G : List Tx) : Qy := leftQ 0 3 (G.map gramQ)
theorem gq_op (G : List Tx) : (gq G).op = 0 ∨ (gq G).op = 2 ∨ (gq G).op = 3 := by
  match G with
  | [] => exact .inl rfl
  | [g] => exact .inr (.inl rfl)
  | a :: b :: r => exact .inr (.inr rfl)
theorem query_one (l : Tx) : queryOf [l] = gq (gramsOf l) := by
  show tg 4 [tg 3 ((gramsOf l).map gramQ)] = _
  have e : tg 3 ((gramsOf l).map gramQ) = gq (gramsOf l) := tg3_grams _ (asc_nodup (ups_asc _))
  rw [e]
  exact tg4_one (gq_op _)
theorem gq_len (G : List Tx) : (gq G).l.len = if G.length = 1 then 0 else G.length := by
  match G with
  | [] => rfl
  | [g] => rfl
  | a :: b :: r =>
    show (fq _).len = _
    rw [fq_len]
    simp
theorem gq_zero (G : List Tx) (h : ¬ 0 < G.length) : (gq G).op = 0 := by
  cases G with
  | nil => rfl
  | cons a r => simp at h
theorem fq_grams_dp (G : List Tx) : (fq (G.map gramQ)).dp ≤ 1 := by
  induction G with
  | nil => simp [fq, Qf.dp]
  | cons a r ih => simp [fq, Qf.dp, gramQ]; exact Nat.max_le.2 ⟨Nat.le_refl _, ih⟩
theorem gq_dp (G : List Tx) : (gq G).dp ≤ 2 := by
  match G with
  | [] => decide
  | [g] => simp [gq, leftQ, gramQ, Qy.dp, Qf.dp]
  | a :: b :: r =>
    show 1 + (fq ((a :: b :: r).map gramQ)).dp ≤ 2
    have := fq_grams_dp (a :: b :: r)
    omega
theorem ems_chk : ∀ (f : Qf) (d : Nat), f.ok → d + f.dp ≤ 9 → ∀ y ∈ f.ems d, y.1 ≤ 8 ∧ fitQ y.2.1.o y.2.1.t y.2.2
  | .nil, _, _, _, y, h => by simp [Qf.ems] at h
  | .cons o t k r, d, ⟨h1, h2, h3⟩, hd, y, hy => by
    simp only [Qf.dp] at hd
    simp only [Qf.ems, List.mem_cons, List.mem_append] at hy
    rcases hy with rfl | hy | hy
    · refine ⟨by show d ≤ 8; omega, ?_⟩
      rcases h1 with ⟨a, b, c⟩ | ⟨a, b, c⟩ | h
      · exact .inl ⟨a, b, by rw [c]; rfl⟩
      · exact .inr (.inl ⟨a, b, by rw [c]; rfl⟩)
      · exact .inr (.inr h)
    · exact ems_chk k (d + 1) h2 (by omega) y hy
    · exact ems_chk r d h3 (by omega) y hy
theorem chk_of {q : Qy} (h : q.ok) (hd : q.dp ≤ 8) : chkQ q := fun y hy => by
  refine ems_chk (.cons q.op q.tx q.l .nil) 1 ⟨h.1, h.2, trivial⟩ (by simp only [Qf.dp, Qy.dp] at *; omega) y ?_
  simpa [Qf.ems, emsQ] using hy
theorem quo_chk (l : Tx) : chkQ (queryOf [l]) := chk_of (queryOf_ok _) (by rw [query_one]; have := gq_dp (gramsOf l); omega)
theorem quo_fit (l : Tx) : (queryOf [l]).fit (gramsOf l) = true := by
  rw [queryOf_fit]
  simp
theorem bd_one' {l : Tx} (h : l.length ≤ 32) : Bd [l] := ⟨by simp, fun t ht => by rw [List.mem_singleton.1 ht]; exact h, asc_one _⟩
end Go.Proofs.YtnffbmipllhjdaaGreatDoor.G

namespace Go.Proofs.YtnffbmipllhjdaaGreatDoor.G
open Go.RowKit Go.Shelf
set_option linter.unusedVariables false
set_option linter.unusedSimpArgs false
attribute [local go_sem] Oper.semAt_some

theorem str_tx (p : ByteArray) : ∃ l : Tx, p = ⟨l.toArray⟩ ∧ l.length = p.size := by
  refine ⟨p.data.toList, ?_, by rw [Array.length_toList]; rfl⟩
  cases p
  simp
set_option maxHeartbeats 8000000 in
set_option maxRecDepth 100000 in
theorem quotesW (s : ByteArray) (w : World) (hT : Tab w) (ws : s.size ≤ maxLen) :
    Calls Tryz.prog 7 #[.string s] w fun e w' => e = .returned (.bool true) ∧ Below w.heap.size w w' := by
  obtain ⟨m, hm⟩ : ∃ m, m = min s.size 32 := ⟨_, rfl⟩
  have e1 : (if (32 : Int) < (s.size : Int) then (32 : Int) else (s.size : Int)) = (m : Int) := by split <;> omega
  have e2 : min (s.size : Int) 32 = (m : Int) := by omega
  have j0 : (m : Int) ≤ (s.size : Int) := by omega
  have j1 : m ≤ s.size := by omega
  have hmm : (s.extract 0 m).size ≤ 32 := by rw [ByteArray.size_extract]; omega
  obtain ⟨l, hl, hll⟩ := str_tx (s.extract 0 m)
  have hl32 : l.length ≤ 32 := by omega
  replace hm := hide hm
  replace hl := hide hl
  have WA := hide (works_any w hT)
  have hTh := hide hT
  clear hT ws hmm hll
  go_enter Tryz.func7, Tryz.ntmps7
  go_wp2_with (go_at_call 21; refine WA.out.mono ?_)
  rintro e w1 ⟨rfl, B1⟩
  have T1 := hTh.out.below B1
  clear WA
  have QU := hide (Q.quote_any ⟨l.toArray⟩ (by show l.toArray.size ≤ 256; rw [List.size_toArray]; omega) w1)
  have B1h := hide B1
  clear B1
  go_wp2_with (go_at_call 32; rw [hl.out]; refine QU.out.mono ?_)
  rintro e w2 ⟨rfl, B2⟩
  have b2 := hide (B1h.out.trans (B2.mono B1h.out.size))
  have T2 := T1.below B2
  have PA := hide (parse_any ⟨(Q.quo l).toArray⟩ w2 T2)
  have hquo := hide (Q.quo_len l)
  clear QU B2
  go_wp2_with (go_at_call 31; refine PA.out.mono ?_)
  intro e w3 hR
  obtain ⟨B3, ⟨h1, _⟩ | ⟨_, ⟨p, h2, _⟩ | ⟨x, t', h2, he, T⟩⟩⟩ := hR
  · exfalso
    have h1' : 256 < (Q.quo l).toArray.size := h1
    rw [List.size_toArray] at h1'
    have := hquo.out
    omega
  · rw [Q.parse_quo] at h2; cases h2
  · rw [Q.parse_quo] at h2
    cases h2
    subst he
    obtain ⟨va, vn, vc, rfl⟩ := T.val
    have TH := hide T
    have H := St.start Nope w3
    have b3 := hide (b2.out.trans (B3.mono b2.out.size))
    have hg := parse_good ⟨(Q.quo l).toArray⟩
    rw [Q.parse_quo] at hg
    obtain ⟨hf, _, hd⟩ := hg
    have htold := quo_told l hl32
    have FR := hide (fun (w' : World) (hb : Below w3.heap.size w3 w') => from_any (tog 2 (Q.lvs l)) _ _ w' (TH.out.kept (fun b _ hl => hb.block b hl)) hf (quo_okT l) (quo_sz l hl32) (by omega))
    rw [htold] at FR
    clear T PA B3 hf hd htold
    generalize tog 2 (Q.lvs l) = tt at *
    go_wp2_with (first | ((with_reducible refine at_alloc 27 ?_); refine wl_alloc28 H ?_; clear H; intro g1 w4 H q1 q2) | ((with_reducible refine at_store 27 ?_); refine wl_store28 0 H rfl rfl rfl rfl ?_; clear H; intro w5 H; have hb5 := H.below) | ((with_reducible refine at_load 27 ?_); refine wl_load28 0 H rfl rfl ?_) | (go_at_call 10; refine (FR.out _ hb5).mono ?_))
    rintro e w6 ⟨z, rfl, hqv, B6⟩
    have hqv2 : QyV w6 (fun b => w5.heap.size ≤ b) z (queryOf [l]) := hqv
    obtain ⟨q, hq⟩ : ∃ q, q = queryOf [l] := ⟨_, rfl⟩
    rw [← hq] at hqv2
    have hql : q.l.len = if (gramsOf l).length = 1 then 0 else (gramsOf l).length := by rw [hq, query_one]; exact gq_len _
    have hq0 : ¬ 0 < (gramsOf l).length → q.op = 0 := fun h => by rw [hq, query_one]; exact gq_zero _ h
    have hqc : chkQ q := by rw [hq]; exact quo_chk l
    have hqf : q.fit (gramsOf l) = true := by rw [hq]; exact quo_fit l
    have hqz : q.sz ≤ 4096 := by rw [hq]; have := queryOf_sz (bd_one' hl32); omega
    clear hqv
    replace hq := hide hq
    obtain ⟨xa, xm, xc, rfl⟩ := hqv2.slice
    have hxm : xm = q.l.len := by
      obtain ⟨v, zs, e, ho, _⟩ := hqv2
      obtain ⟨a2, c2, rfl, _⟩ := owns3_val ho
      have := congrArg (fun v => match v with | .agg a => a[2]? | _ => none) e
      simp [qV, qA] at this
      exact this.2.1
    have H6 := St.start Nope w6
    have b6 := hide (b3.out.trans ((hb5.trans (B6.mono hb5.size)).mono b3.out.size))
    have FI := hide (fun (w' : World) (hb : Below w6.heap.size w6 w') => fitsF_any q hqz (fun b => w5.heap.size ≤ b ∧ b < w6.heap.size) _ l (by omega) w' ((hqv2.mono (fun b hb hp => ⟨hp, hb⟩)).kept (fun b hp _ => hb.block b hp.2)))
    have GR := hide (fun (w' : World) => callsIn_wide.1 (gramsG_in 5 (by omega) l (by omega) w'))
    replace hql := hide hql
    replace hq0 := hide hq0
    replace hqc := hide hqc
    replace hqf := hide hqf
    replace hxm := hide hxm
    clear H B6 FR hqv2
    go_wp2_with (first | ((with_reducible refine at_alloc 30 ?_); refine wl_alloc30 H6 ?_; clear H6; intro g5 w7 H6 q3 q4) | ((with_reducible refine at_store 30 ?_); refine wl_store30 0 H6 rfl rfl rfl rfl ?_; clear H6; intro w8 H6; have hb8 := H6.below) | ((with_reducible refine at_load 30 ?_); refine wl_load30 0 H6 rfl rfl ?_) | (go_at_call 22; refine (FI.out _ hb8).mono ?_))
    rintro e w9 ⟨bb, r, rfl, hr, B9⟩
    obtain ⟨rfl, rfl⟩ : bb = true ∧ r = 0 := by
      rcases hr with ⟨_, e1, e2⟩ | ⟨e1, _⟩
      · exact ⟨by rw [e2]; exact hqf.out, e1⟩
      · exact absurd hqc.out e1
    have H9 := H6.call B9 (Nat.le_refl _)
    have hb9 := H9.below
    clear H6 B9 hr FI
    go_wp2_with (go_at_call 13; refine (GR.out _).mono ?_)
    rintro e w10 ⟨v, rfl, ho, B10⟩
    obtain ⟨ta, tc, rfl⟩ := row_slice ho
    have H10 := H9.call B10 (Nat.le_refl _)
    have b10 := hide (b6.out.trans ((hb9.trans (B10.mono hb9.size)).mono b6.out.size))
    have c0 := H10.cell 0 0 rfl (v := .int .i64 q.op) rfl
    have c2 := H10.cell 0 2 rfl (v := .slice xa xm xc) rfl
    obtain ⟨n, hn⟩ : ∃ n, n = (gramsOf l).length := ⟨_, rfl⟩
    rw [← hn]
    have hxn : xm = if n = 1 then 0 else n := by rw [hxm.out, hql.out, hn]
    have hop : ¬ 0 < n → q.op = 0 := by rw [hn]; exact hq0.out
    have hnm : n ≤ 1000 := by rw [hn]; have := ups_len (winds l); have := winds_len l; unfold gramsOf; omega
    replace hn := hide hn
    clear ho B10 H9 H10 hb9 GR
    by_cases h1 : n = 1
    · subst h1
      obtain rfl : xm = 0 := hxn
      clear hop hql hq0 hqc hqf hxm
      go_wp2
      go_ret
      exact ⟨rfl, b10.out⟩
    · rw [if_neg h1] at hxn
      subst hxn
      by_cases h0 : 0 < xm
      · have i1 : (0 : Int) < (xm : Int) := by omega
        have i2 : ¬ (xm : Int) = 1 := by omega
        clear hop hql hq0 hqc hqf hxm
        go_wp2
        go_ret
        exact ⟨rfl, b10.out⟩
      · obtain rfl : xm = 0 := by omega
        rw [hop (by omega)] at c0
        clear hop hql hq0 hqc hqf hxm
        go_wp2
        go_ret
        exact ⟨rfl, b10.out⟩
end Go.Proofs.YtnffbmipllhjdaaGreatDoor.G
