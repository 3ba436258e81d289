/-
  Match.
-/
import Derived.Test.YtkfdikpnnkbgaaaGreatDoorSO
namespace Go.Proofs.YtkfdikpnnkbgaaaGreatDoor
open Go.RowKit Go.Shelf
set_option linter.unusedVariables false
set_option linter.unusedSimpArgs false

/-- The bytes of a text, as numbers. -/
def bys (s : ByteArray) : List Nat := (List.range s.size).map (fun k => (bt s k).toNat)
theorem bys_len (s : ByteArray) : (bys s).length = s.size := by simp [bys]
theorem bys_at {s : ByteArray} {k : Nat} (h : k < s.size) : (bys s)[k]? = some (bt s k).toNat := by simp [bys, h]
theorem bys_take {s : ByteArray} {k : Nat} (h : k < s.size) : (bys s).take (k + 1) = (bys s).take k ++ [(bt s k).toNat] := by
  rw [List.take_add_one, bys_at h]
  rfl
theorem eps_lt {L : List Ins} (hG : GoL L) {i j : Nat} (h : i < L.length) (e : Eps L i j) : j < L.length := by
  induction e with
  | refl => exact h
  | goX _ h1 h2 ih => have := (hG _ (List.mem_of_getElem? h1)).1 (by omega); omega
  | goY _ h1 h2 ih => have := (hG _ (List.mem_of_getElem? h1)).2 h2; omega
theorem nxt_lt {L : List Ins} (hG : GoL L) {S : Sn} {b j : Nat} (h : nxt L S b j) : j < L.length := by
  obtain ⟨i, q, _, h2, h3, _, h5⟩ := h
  have := (hG _ (List.mem_of_getElem? h2)).1 (.inr (.inr h3))
  exact eps_lt hG (by omega) h5
theorem stn_lt {L : List Ins} (hG : GoL L) (h0 : 0 < L.length) (s : List Nat) : ∀ j, stn L s j → j < L.length := by
  rcases List.eq_nil_or_concat s with rfl | ⟨p, b, rfl⟩
  · exact fun j h => eps_lt hG h0 h
  · rw [List.concat_eq_append, stn_snoc]
    exact fun j h => nxt_lt hG h
theorem nxt_congr {L : List Ins} {S T : Sn} (h : ∀ m, S m ↔ T m) (b m : Nat) : nxt L S b m ↔ nxt L T b m := by
  constructor
  · rintro ⟨i, q, h1, h2⟩; exact ⟨i, q, (h i).1 h1, h2⟩
  · rintro ⟨i, q, h1, h2⟩; exact ⟨i, q, (h i).2 h1, h2⟩
theorem accS_congr {L : List Ins} {S T : Sn} (h : ∀ m, S m ↔ T m) : accS L S ↔ accS L T := by
  constructor
  · rintro ⟨i, q, h1, h2⟩; exact ⟨i, q, (h i).1 h1, h2⟩
  · rintro ⟨i, q, h1, h2⟩; exact ⟨i, q, (h i).2 h1, h2⟩
theorem stn_dead {L : List Ins} (p r : List Nat) (h : ∀ m, ¬ stn L p m) : ∀ m, ¬ stn L (p ++ r) m := by
  unfold stn
  rw [List.foldl_append]
  exact fold_dead r _ h
/-- A runner that has read p. -/
structure RnS (L : List Ins) (g : Nat) (ad : Option Addr) (c : Nat) (p : List Nat) (W : List Nat) (w : World) : Prop where
  ok : OkW W
  st : ∀ m, inW W m = true ↔ stn L p m
  rn : Rn w g ad L.length c W
set_option maxHeartbeats 4000000 in
set_option maxRecDepth 100000 in
theorem match_any (ad : Option Addr) (c : Nat) (L : List Ins) (s : ByteArray) (w : World) (hL : HsI w (fun k => k < w.heap.size) ad L) (hT : Tab w) (hG : GoL L) (hok : ∀ q ∈ L, OkS q.s) (hc : chkS L s = 0) (h0 : 0 < L.length) (hlen : L.length ≤ 2048) (hs : s.size ≤ 65536) :
    Calls Tryz.prog 11 #[.slice ad L.length c, .string s] w fun e w' => Below w.heap.size w w' ∧ ∃ x : Bool, e = .returned (.tuple #[.bool x, .int .i64 0]) ∧ (x = true ↔ accS L (stn L (bys s))) := by
  have H1 := hide (check_sim ad c L s w hL)
  rw [hc] at H1
  have hpos := hT.pos
  replace hL := hide hL
  replace hT := hide hT
  replace hG := hide hG
  replace hok := hide hok
  clear hc
  go_enter Tryz.func11, Tryz.ntmps11
  go_wp2_with fail
  refine H1.out.mono ?_
  rintro e w1 ⟨rfl, B1⟩
  have hL1 : HsI w1 (fun k => k < w1.heap.size) ad L := hL.out.kept (fun k _ hk => B1.block k hk) (fun k hk h => by have := B1.size; omega)
  replace B1 := hide B1
  replace hL1 := hide hL1
  go_wp2_with fail
  refine (begin_any ad c L w1 hL1.out hG.out hlen h0).mono ?_
  rintro e w2 ⟨g, W, rfl, hg, B2, hW, hst, hR⟩
  have hs1 := B1.out.size
  have B12 : Below w.heap.size w w2 := B1.out.trans (B2.mono hs1)
  have R2 : Hid (RnS L g ad c ((bys s).take 0) W w2) := ⟨hW, hst, hR⟩
  replace B12 := hide B12
  replace B2 := hide B2
  clear hst hR hW
  have hgl : w.heap.size ≤ g := by omega
  go_wp2_with fail
  go_loopw [19] (fun v wr => ∃ (k : Nat) (W : List Nat), v = .int .i64 ((k : Nat) : Int) ∧ k ≤ s.size ∧ Hid (RnS L g ad c ((bys s).take k) W wr) ∧ Hid (Below w.heap.size w wr)) (fun v _ => s.size - (RowKit.intOf v).toNat)
  case atStart => exact ⟨0, W, rfl, Nat.zero_le _, R2, B12⟩
  case round =>
    obtain ⟨k, V, rfl, hk, hR, hB⟩ := hrel
    have hBs := hB.out.size
    have hLr : Hid (HsI wr (fun k => k < wr.heap.size ∧ k ≠ g) ad L) := hL.out.kept (fun k _ hk => hB.out.block k hk) (fun k hk h => by omega)
    have hTr : Hid (Tab wr) := hT.out.below hB.out
    have hin : Hid (∀ i, inW V i = true → i < L.length) := fun i hi => stn_lt hG.out h0 _ i ((hR.out.st i).1 hi)
    by_cases hlt : k < s.size
    · have i1 : (k : Int) < (s.size : Int) := by omega
      have i2 : ¬ ((s.size : Int) ≤ (k : Int)) := by omega
      have b0 := bt_eq hlt
      have hbr := bt_range s k
      obtain ⟨b, hb⟩ : ∃ b : Nat, bt s k = (b : Int) := ⟨(bt s k).toNat, by omega⟩
      have hb2 : b < 256 := by omega
      have htk := bys_take hlt
      rw [hb] at b0 htk
      simp only [Int.toNat_natCast] at htk
      have hfeed := hide (callsIn_wide.1 (feed_in 6 (by omega) g ad c L V hR.out.ok b hb2 wr hR.out.rn hLr.out hin.out hTr.out h0 hlen hG.out hok.out))
      replace htk := hide htk
      replace hb := hide hb
      clear hbr
      have hltH := hide hlt
      go_wp2_with fail
      refine hfeed.out.mono ?_
      rintro e w9 ⟨V9, rfl, hV9, hst9, hR9, hb9⟩
      have hS9 : RnS L g ad c ((bys s).take (k + 1)) V9 w9 := ⟨hV9, fun m => by
        rw [hst9 m, htk.out, stn_snoc]
        exact nxt_congr (fun i => hR.out.st i) b m, hR9⟩
      have hB9 : Hid (Below w.heap.size w w9) := hB.out.trans (hb9.below hBs (fun k e => by omega))
      by_cases hd : V9 = noW
      · have hdd : decide (V9 = noW) = true := by simp [hd]
        rw [hdd]
        have hno : ¬ accS L (stn L (bys s)) := by
          have hn : ∀ m, ¬ stn L ((bys s).take (k + 1)) m := fun m h => by
            have := (hS9.st m).2 h
            rw [hd, inW_no] at this
            cases this
          have := stn_dead ((bys s).take (k + 1)) ((bys s).drop (k + 1)) hn
          rw [List.take_append_drop] at this
          rintro ⟨i, _, h1, _⟩
          exact this i h1
        replace hno := hide hno
        replace hS9 := hide hS9
        clear hst9 hR9 hb9 hd
        go_wp2_with fail
        go_ret2
        exact ⟨hB9.out, false, rfl, by simpa using hno.out⟩
      · have hdd : decide (V9 = noW) = false := by simp [hd]
        rw [hdd]
        replace hS9 := hide hS9
        clear hst9 hR9 hb9 hd
        go_wp2_with fail
        go_roundw
        case rel => exact ⟨k + 1, V9, by go_num, hltH.out, hS9, hB9⟩
        case measure => have := hltH.out; simp [RowKit.intOf]; omega
    · obtain rfl : k = s.size := by omega
      have hall : (bys s).take s.size = bys s := by rw [← bys_len s, List.take_length]
      have hacc := hide (callsIn_wide.1 (acc_in 5 (by omega) g ad c L V hR.out.ok wr hR.out.rn (hLr.out.kept (fun _ _ _ => rfl) (fun k _ h => h.1)) hin.out hTr.out h0))
      go_wp2_with fail
      refine hacc.out.mono ?_
      rintro e w9 ⟨rfl, B9⟩
      have hx : accB L V = true ↔ accS L (stn L (bys s)) := by
        rw [accB_iff hR.out.ok]
        refine accS_congr (fun m => ?_)
        have := hR.out.st m
        rw [hall] at this
        exact this
      generalize accB L V = xb at hx
      replace hx := hide hx
      replace B9 := hide B9
      go_wp2_with fail
      go_ret2
      exact ⟨hB.out.trans (B9.out.mono hBs), xb, rfl, hx.out⟩
end Go.Proofs.YtkfdikpnnkbgaaaGreatDoor
