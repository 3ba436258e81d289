/-
  plain, hex, escaped.
-/
import Derived.Test.YtkfdikpnnkbgaaaGreatDoorA
namespace Go.Proofs.YtkfdikpnnkbgaaaGreatDoor
open Go.RowKit
set_option linter.unusedVariables false
set_option linter.unusedSimpArgs false

/-- What is read: a set, the place behind it or where it goes wrong, whether it is right. -/
abbrev Rs := S4 × Nat × Bool
def plR (s : ByteArray) (k : Nat) : Rs := if bt s k < 32 ∨ 126 < bt s k then (noSet, k, false) else (span (bt s k).toNat (bt s k).toNat, k + 1, true)
set_option maxHeartbeats 2000000 in
theorem plain_any (s : ByteArray) (k : Nat) (hk : k ≤ 100000) (w : World) {z : Int} (hz : z = (k : Int)) : Calls Tryz.prog 144 #[.string s, .int .i64 z] w fun e w' => e = .returned (.tuple #[setV (plR s k).1, .int .i64 ((plR s k).2.1 : Int), .bool (plR s k).2.2]) ∧ Below w.heap.size w w' := by
  subst hz
  have H := St.start Nope w
  have hr := bt_range s k
  unfold plR
  obtain ⟨c, hc⟩ : ∃ c, bt s k = c := ⟨_, rfl⟩
  rw [hc] at hr ⊢
  replace hc := hide hc
  by_cases h1 : c < 32
  · rw [if_pos (.inl h1)]
    go_enter Tryz.func144, Tryz.ntmps144
    go_wp2_with (with_reducible refine at_alloc 24 ?_; refine wl_alloc25 H ?_; clear H; intro g w' H q1 q2; clear q1 q2)
    refine (byteAt_i s k _ rfl).mono ?_
    rintro e w1 ⟨rfl, rfl⟩
    rw [hc.out]
    go_wp2_with (with_reducible refine at_store 24 ?_; refine wl_store25 0 (s' := noSet) H rfl rfl rfl ?_; clear H; intro w' H)
    refine bodyPost_ret (results_cell2 rfl _ _ g _ rfl (load25 (H.get 0 rfl))) rfl ?_
    exact ⟨rfl, H.below⟩
  · by_cases h2 : 126 < c
    · rw [if_pos (.inr h2)]
      go_enter Tryz.func144, Tryz.ntmps144
      go_wp2_with (with_reducible refine at_alloc 24 ?_; refine wl_alloc25 H ?_; clear H; intro g w' H q1 q2; clear q1 q2)
      refine (byteAt_i s k _ rfl).mono ?_
      rintro e w1 ⟨rfl, rfl⟩
      rw [hc.out]
      go_wp2_with (with_reducible refine at_store 24 ?_; refine wl_store25 0 (s' := noSet) H rfl rfl rfl ?_; clear H; intro w' H)
      refine bodyPost_ret (results_cell2 rfl _ _ g _ rfl (load25 (H.get 0 rfl))) rfl ?_
      exact ⟨rfl, H.below⟩
    · rw [if_neg (by omega)]
      go_enter Tryz.func144, Tryz.ntmps144
      go_wp2_with (with_reducible refine at_alloc 24 ?_; refine wl_alloc25 H ?_; clear H; intro g w' H q1 q2; clear q1 q2)
      refine (byteAt_i s k _ rfl).mono ?_
      rintro e w1 ⟨rfl, rfl⟩
      rw [hc.out]
      go_wp2_with fail
      refine (span_any c.toNat c.toNat (by omega) (by omega) _ (by omega) (by omega)).mono ?_
      rintro e w2 ⟨rfl, b2⟩
      replace H := H.call b2 (Nat.le_refl _)
      go_wp2_with (with_reducible refine at_store 24 ?_; refine wl_store25 0 H rfl rfl rfl ?_; clear H; intro w' H)
      refine bodyPost_ret (results_cell2 rfl _ _ g _ rfl (load25 (H.get 0 rfl))) rfl ?_
      exact ⟨rfl, H.below⟩
/-- Two digits to the base 16. -/
def hexR (s : ByteArray) (k : Nat) : Rs := match hx (bt s k) with
  | none => (noSet, k, false)
  | some h => match hx (bt s (k + 1)) with
    | none => (noSet, k + 1, false)
    | some l => (span (h * 16 + l).toNat (h * 16 + l).toNat, k + 2, true)
theorem hx_range {c h : Int} (e : hx c = some h) : 0 ≤ h ∧ h ≤ 15 := by
  unfold hx at e
  split at e
  · cases e; omega
  · split at e
    · cases e; omega
    · split at e
      · cases e; omega
      · cases e
set_option maxHeartbeats 2000000 in
theorem hex_any (s : ByteArray) (k : Nat) (hk : k ≤ 100000) (w : World) {z : Int} (hz : z = (k : Int)) : Calls Tryz.prog 161 #[.string s, .int .i64 z] w fun e w' => e = .returned (.tuple #[setV (hexR s k).1, .int .i64 ((hexR s k).2.1 : Int), .bool (hexR s k).2.2]) ∧ Below w.heap.size w w' := by
  subst hz
  have H := St.start Nope w
  have D0 := hide (hexDigit_any (bt s k) (bt_range s k))
  have D1 := hide (hexDigit_any (bt s (k + 1)) (bt_range s (k + 1)))
  have r0 := hide (fun h => hx_range (c := bt s k) (h := h))
  have r1 := hide (fun h => hx_range (c := bt s (k + 1)) (h := h))
  unfold hexR
  generalize hc : bt s k = c at D0 r0 ⊢
  generalize hd : bt s (k + 1) = d at D1 r1 ⊢
  replace hc := hide hc
  replace hd := hide hd
  cases h0 : hx c with
  | none =>
    rw [h0] at D0
    simp only [Option.getD_none, Option.isSome_none] at D0
    go_enter Tryz.func161, Tryz.ntmps161
    go_wp2_with (with_reducible refine at_alloc 24 ?_; refine wl_alloc25 H ?_; clear H; intro g w' H q1 q2; clear q1 q2)
    refine (byteAt_i s k _ rfl).mono ?_
    rintro e w1 ⟨rfl, rfl⟩
    rw [hc.out]
    go_wp2_with fail
    refine (D0.out _).mono ?_
    rintro e w1 ⟨rfl, rfl⟩
    go_wp2_with (with_reducible refine at_store 24 ?_; refine wl_store25 0 (s' := noSet) H rfl rfl rfl ?_; clear H; intro w' H)
    refine bodyPost_ret (results_cell2 rfl _ _ g _ rfl (load25 (H.get 0 rfl))) rfl ?_
    exact ⟨rfl, H.below⟩
  | some h =>
    rw [h0] at D0
    simp only [Option.getD_some, Option.isSome_some] at D0
    obtain ⟨a1, a2⟩ := r0.out h h0
    clear r0 h0
    cases h1 : hx d with
    | none =>
      rw [h1] at D1
      simp only [Option.getD_none, Option.isSome_none] at D1
      go_enter Tryz.func161, Tryz.ntmps161
      go_wp2_with (with_reducible refine at_alloc 24 ?_; refine wl_alloc25 H ?_; clear H; intro g w' H q1 q2; clear q1 q2)
      refine (byteAt_i s k _ rfl).mono ?_
      rintro e w1 ⟨rfl, rfl⟩
      rw [hc.out]
      go_wp2_with fail
      refine (D0.out _).mono ?_
      rintro e w1 ⟨rfl, rfl⟩
      go_wp2_with fail
      refine (byteAt_i s (k + 1) _ (by omega)).mono ?_
      rintro e w1 ⟨rfl, rfl⟩
      rw [hd.out]
      go_wp2_with fail
      refine (D1.out _).mono ?_
      rintro e w1 ⟨rfl, rfl⟩
      go_wp2_with (with_reducible refine at_store 24 ?_; refine wl_store25 0 (s' := noSet) H rfl rfl rfl ?_; clear H; intro w' H)
      refine bodyPost_ret (results_cell2 rfl _ _ g _ rfl (load25 (H.get 0 rfl))) rfl ?_
      exact ⟨rfl, H.below⟩
    | some l =>
      rw [h1] at D1
      simp only [Option.getD_some, Option.isSome_some] at D1
      obtain ⟨c1, c2⟩ := r1.out l h1
      clear r1 h1
      have m1 : h * 16 % 256 = h * 16 := by omega
      have m2 : (h * 16 + l) % 256 = h * 16 + l := by omega
      go_enter Tryz.func161, Tryz.ntmps161
      go_wp2_with (with_reducible refine at_alloc 24 ?_; refine wl_alloc25 H ?_; clear H; intro g w' H q1 q2; clear q1 q2)
      refine (byteAt_i s k _ rfl).mono ?_
      rintro e w1 ⟨rfl, rfl⟩
      rw [hc.out]
      go_wp2_with fail
      refine (D0.out _).mono ?_
      rintro e w1 ⟨rfl, rfl⟩
      go_wp2_with fail
      refine (byteAt_i s (k + 1) _ (by omega)).mono ?_
      rintro e w1 ⟨rfl, rfl⟩
      rw [hd.out]
      go_wp2_with fail
      refine (D1.out _).mono ?_
      rintro e w1 ⟨rfl, rfl⟩
      go_wp2_with fail
      refine (span_any (h * 16 + l).toNat (h * 16 + l).toNat (by omega) (by omega) _ (by omega) (by omega)).mono ?_
      rintro e w2 ⟨rfl, b2⟩
      replace H := H.call b2 (Nat.le_refl _)
      go_wp2_with (with_reducible refine at_store 24 ?_; refine wl_store25 0 H rfl rfl rfl ?_; clear H; intro w' H)
      refine bodyPost_ret (results_cell2 rfl _ _ g _ rfl (load25 (H.get 0 rfl))) rfl ?_
      exact ⟨rfl, H.below⟩
section
variable {S : Nat → Prop} {w0 w : World} {L : List Ent} {ops : Array Oper} {rest : List Oper} {a : Act} {Q : Exit → Act → World → Prop} {dst : Option Nat} {x y z u : Operand} {ty : TypeId} {pos : String} {after : Array Edge}
theorem hasU_new {xs : Array Value} {w : World} {M : List S4} (hm : M.length ≤ 1000) (h : ∀ i, i < M.length → ∀ q, q < 4 → xs[i * 4 + q]? = some (.int .u64 ((M.getD i noSet).get q))) : HasU (w.alloc (.cells xs 24)) (some ⟨w.heap.size, 0, none⟩) M.length M :=
  ⟨rfl, hm, fun _ => ⟨_, rfl, by simp, fun i hi q hq => by rw [cell_of_row _ _ _ _ _ _ (heap_alloc_new w _)]; exact h i hi q hq⟩⟩
theorem run_bs2 (s1 s2 : S4) (w : World) : (Instr.buildSlice 218 2 #[(0, setV s1), (1, setV s2)]).run Tryz.prog w = .ok (.slice (some ⟨w.heap.size, 0, none⟩) 2 2) (w.alloc (.cells #[.int .u64 s1.a, .int .u64 s1.b, .int .u64 s1.c, .int .u64 s1.d, .int .u64 s2.a, .int .u64 s2.b, .int .u64 s2.c, .int .u64 s2.d] 24)) := by kernel_rfl
theorem run_bs3 (s1 s2 s3 : S4) (w : World) : (Instr.buildSlice 218 3 #[(0, setV s1), (1, setV s2), (2, setV s3)]).run Tryz.prog w = .ok (.slice (some ⟨w.heap.size, 0, none⟩) 3 3) (w.alloc (.cells #[.int .u64 s1.a, .int .u64 s1.b, .int .u64 s1.c, .int .u64 s1.d, .int .u64 s2.a, .int .u64 s2.b, .int .u64 s2.c, .int .u64 s2.d, .int .u64 s3.a, .int .u64 s3.b, .int .u64 s3.c, .int .u64 s3.d] 24)) := by kernel_rfl
theorem run_bs4 (s1 s2 s3 s4 : S4) (w : World) : (Instr.buildSlice 218 4 #[(0, setV s1), (1, setV s2), (2, setV s3), (3, setV s4)]).run Tryz.prog w = .ok (.slice (some ⟨w.heap.size, 0, none⟩) 4 4) (w.alloc (.cells #[.int .u64 s1.a, .int .u64 s1.b, .int .u64 s1.c, .int .u64 s1.d, .int .u64 s2.a, .int .u64 s2.b, .int .u64 s2.c, .int .u64 s2.d, .int .u64 s3.a, .int .u64 s3.b, .int .u64 s3.c, .int .u64 s3.d, .int .u64 s4.a, .int .u64 s4.b, .int .u64 s4.c, .int .u64 s4.d] 24)) := by kernel_rfl
theorem at_bs (n : Nat) {ps : Array (Nat × Operand)} (h : wpList Tryz.prog ops Q (⟨dst, .buildSlice 218 n ps, ty, pos, after, none⟩ :: rest) a w) : wpList Tryz.prog ops Q (⟨dst, .buildSlice 218 n ps, ty, pos, after, none⟩ :: rest) a w := h
theorem wl_bs2 (H : St S w0 w L) {s1 s2 : S4} (hx : a.eval x = setV s1) (hy : a.eval y = setV s2)
    (k : ∀ b w', St S w0 w' L → HasU w' (some ⟨b, 0, none⟩) 2 [s1, s2] → wpList Tryz.prog ops Q rest (a.put dst (.slice (some ⟨b, 0, none⟩) 2 2)) w') : wpList Tryz.prog ops Q (⟨dst, .buildSlice 218 2 #[(0, x), (1, y)], ty, pos, after, none⟩ :: rest) a w := by
  refine wpList_plain rfl fun K hK => ?_
  unfold Oper.wp execOp
  simp only [List.map_toArray, List.map_cons, List.map_nil, hx, hy, Sem.run_bind, run_bs2, Result.andThen_ok, Sem.run_pure]
  refine hK _ _ (k _ _ ((H.alloc 24 _).tail) (hasU_new (M := [s1, s2]) (by simp) fun i hi q hq => ?_))
  rcases (show i = 0 ∨ i = 1 by simp at hi; omega) with rfl | rfl <;> rcases (show q = 0 ∨ q = 1 ∨ q = 2 ∨ q = 3 by omega) with rfl | rfl | rfl | rfl <;> rfl
theorem wl_bs3 (H : St S w0 w L) {s1 s2 s3 : S4} (hx : a.eval x = setV s1) (hy : a.eval y = setV s2) (hz : a.eval z = setV s3)
    (k : ∀ b w', St S w0 w' L → HasU w' (some ⟨b, 0, none⟩) 3 [s1, s2, s3] → wpList Tryz.prog ops Q rest (a.put dst (.slice (some ⟨b, 0, none⟩) 3 3)) w') : wpList Tryz.prog ops Q (⟨dst, .buildSlice 218 3 #[(0, x), (1, y), (2, z)], ty, pos, after, none⟩ :: rest) a w := by
  refine wpList_plain rfl fun K hK => ?_
  unfold Oper.wp execOp
  simp only [List.map_toArray, List.map_cons, List.map_nil, hx, hy, hz, Sem.run_bind, run_bs3, Result.andThen_ok, Sem.run_pure]
  refine hK _ _ (k _ _ ((H.alloc 24 _).tail) (hasU_new (M := [s1, s2, s3]) (by simp) fun i hi q hq => ?_))
  rcases (show i = 0 ∨ i = 1 ∨ i = 2 by simp at hi; omega) with rfl | rfl | rfl <;> rcases (show q = 0 ∨ q = 1 ∨ q = 2 ∨ q = 3 by omega) with rfl | rfl | rfl | rfl <;> rfl
theorem wl_bs4 (H : St S w0 w L) {s1 s2 s3 s4 : S4} (hx : a.eval x = setV s1) (hy : a.eval y = setV s2) (hz : a.eval z = setV s3) (hu : a.eval u = setV s4)
    (k : ∀ b w', St S w0 w' L → HasU w' (some ⟨b, 0, none⟩) 4 [s1, s2, s3, s4] → wpList Tryz.prog ops Q rest (a.put dst (.slice (some ⟨b, 0, none⟩) 4 4)) w') : wpList Tryz.prog ops Q (⟨dst, .buildSlice 218 4 #[(0, x), (1, y), (2, z), (3, u)], ty, pos, after, none⟩ :: rest) a w := by
  refine wpList_plain rfl fun K hK => ?_
  unfold Oper.wp execOp
  simp only [List.map_toArray, List.map_cons, List.map_nil, hx, hy, hz, hu, Sem.run_bind, run_bs4, Result.andThen_ok, Sem.run_pure]
  refine hK _ _ (k _ _ ((H.alloc 24 _).tail) (hasU_new (M := [s1, s2, s3, s4]) (by simp) fun i hi q hq => ?_))
  rcases (show i = 0 ∨ i = 1 ∨ i = 2 ∨ i = 3 by simp at hi; omega) with rfl | rfl | rfl | rfl <;> rcases (show q = 0 ∨ q = 1 ∨ q = 2 ∨ q = 3 by omega) with rfl | rfl | rfl | rfl <;> rfl
end
def wordS : S4 := uni [span 65 90, span 97 122, span 48 57, span 95 95]
def spaceS : S4 := uni [span 9 10, span 12 13, span 32 32]
/-- The bytes that stand, behind a backslash, for themselves. -/
def selfs : List Int := [92, 46, 91, 93, 40, 41, 42, 43, 63, 123, 125, 94, 36, 45, 47, 124]
/-- What a backslash and c stand for. -/
def esc (c : Int) : Option S4 :=
  if c ∈ selfs then some (span c.toNat c.toNat)
  else if c = 110 then some (span 10 10)
  else if c = 116 then some (span 9 9)
  else if c = 68 then some (oth (span 48 57))
  else if c = 100 then some (span 48 57)
  else if c = 87 then some (oth wordS)
  else if c = 119 then some wordS
  else if c = 83 then some (oth spaceS)
  else if c = 115 then some spaceS
  else none
set_option maxHeartbeats 4000000 in
theorem esc_92 (w : World) : Calls Tryz.prog 162 #[.int .u8 92] w fun e w' => e = .returned (.tuple #[setV (span 92 92), .bool true]) ∧ Below w.heap.size w w' := by
  have H := St.start Nope w
  go_enter Tryz.func162, Tryz.ntmps162
  go_wp2_with (with_reducible refine at_alloc 24 ?_; refine wl_alloc25 H ?_; clear H; intro g w' H q1 q2; clear q1 q2)
  refine (span_any 92 92 (by omega) (by omega) _ (by rfl) (by rfl)).mono ?_
  rintro e w2 ⟨rfl, b2⟩
  replace H := H.call b2 (Nat.le_refl _)
  go_wp2_with (first | (with_reducible refine at_store 24 ?_; refine wl_store25 0 H rfl rfl rfl ?_; clear H; intro w' H) | (with_reducible refine at_load 24 ?_; refine wl_load25 0 H rfl rfl ?_))
  refine bodyPost_ret (results_cell1 rfl _ _ g _ rfl (load25 (H.get 0 rfl))) rfl ?_
  exact ⟨rfl, H.below⟩
set_option maxHeartbeats 4000000 in
theorem esc_46 (w : World) : Calls Tryz.prog 162 #[.int .u8 46] w fun e w' => e = .returned (.tuple #[setV (span 46 46), .bool true]) ∧ Below w.heap.size w w' := by
  have H := St.start Nope w
  go_enter Tryz.func162, Tryz.ntmps162
  go_wp2_with (with_reducible refine at_alloc 24 ?_; refine wl_alloc25 H ?_; clear H; intro g w' H q1 q2; clear q1 q2)
  refine (span_any 46 46 (by omega) (by omega) _ (by rfl) (by rfl)).mono ?_
  rintro e w2 ⟨rfl, b2⟩
  replace H := H.call b2 (Nat.le_refl _)
  go_wp2_with (first | (with_reducible refine at_store 24 ?_; refine wl_store25 0 H rfl rfl rfl ?_; clear H; intro w' H) | (with_reducible refine at_load 24 ?_; refine wl_load25 0 H rfl rfl ?_))
  refine bodyPost_ret (results_cell1 rfl _ _ g _ rfl (load25 (H.get 0 rfl))) rfl ?_
  exact ⟨rfl, H.below⟩
set_option maxHeartbeats 4000000 in
theorem esc_91 (w : World) : Calls Tryz.prog 162 #[.int .u8 91] w fun e w' => e = .returned (.tuple #[setV (span 91 91), .bool true]) ∧ Below w.heap.size w w' := by
  have H := St.start Nope w
  go_enter Tryz.func162, Tryz.ntmps162
  go_wp2_with (with_reducible refine at_alloc 24 ?_; refine wl_alloc25 H ?_; clear H; intro g w' H q1 q2; clear q1 q2)
  refine (span_any 91 91 (by omega) (by omega) _ (by rfl) (by rfl)).mono ?_
  rintro e w2 ⟨rfl, b2⟩
  replace H := H.call b2 (Nat.le_refl _)
  go_wp2_with (first | (with_reducible refine at_store 24 ?_; refine wl_store25 0 H rfl rfl rfl ?_; clear H; intro w' H) | (with_reducible refine at_load 24 ?_; refine wl_load25 0 H rfl rfl ?_))
  refine bodyPost_ret (results_cell1 rfl _ _ g _ rfl (load25 (H.get 0 rfl))) rfl ?_
  exact ⟨rfl, H.below⟩
set_option maxHeartbeats 4000000 in
theorem esc_93 (w : World) : Calls Tryz.prog 162 #[.int .u8 93] w fun e w' => e = .returned (.tuple #[setV (span 93 93), .bool true]) ∧ Below w.heap.size w w' := by
  have H := St.start Nope w
  go_enter Tryz.func162, Tryz.ntmps162
  go_wp2_with (with_reducible refine at_alloc 24 ?_; refine wl_alloc25 H ?_; clear H; intro g w' H q1 q2; clear q1 q2)
  refine (span_any 93 93 (by omega) (by omega) _ (by rfl) (by rfl)).mono ?_
  rintro e w2 ⟨rfl, b2⟩
  replace H := H.call b2 (Nat.le_refl _)
  go_wp2_with (first | (with_reducible refine at_store 24 ?_; refine wl_store25 0 H rfl rfl rfl ?_; clear H; intro w' H) | (with_reducible refine at_load 24 ?_; refine wl_load25 0 H rfl rfl ?_))
  refine bodyPost_ret (results_cell1 rfl _ _ g _ rfl (load25 (H.get 0 rfl))) rfl ?_
  exact ⟨rfl, H.below⟩
set_option maxHeartbeats 4000000 in
theorem esc_40 (w : World) : Calls Tryz.prog 162 #[.int .u8 40] w fun e w' => e = .returned (.tuple #[setV (span 40 40), .bool true]) ∧ Below w.heap.size w w' := by
  have H := St.start Nope w
  go_enter Tryz.func162, Tryz.ntmps162
  go_wp2_with (with_reducible refine at_alloc 24 ?_; refine wl_alloc25 H ?_; clear H; intro g w' H q1 q2; clear q1 q2)
  refine (span_any 40 40 (by omega) (by omega) _ (by rfl) (by rfl)).mono ?_
  rintro e w2 ⟨rfl, b2⟩
  replace H := H.call b2 (Nat.le_refl _)
  go_wp2_with (first | (with_reducible refine at_store 24 ?_; refine wl_store25 0 H rfl rfl rfl ?_; clear H; intro w' H) | (with_reducible refine at_load 24 ?_; refine wl_load25 0 H rfl rfl ?_))
  refine bodyPost_ret (results_cell1 rfl _ _ g _ rfl (load25 (H.get 0 rfl))) rfl ?_
  exact ⟨rfl, H.below⟩
set_option maxHeartbeats 4000000 in
theorem esc_41 (w : World) : Calls Tryz.prog 162 #[.int .u8 41] w fun e w' => e = .returned (.tuple #[setV (span 41 41), .bool true]) ∧ Below w.heap.size w w' := by
  have H := St.start Nope w
  go_enter Tryz.func162, Tryz.ntmps162
  go_wp2_with (with_reducible refine at_alloc 24 ?_; refine wl_alloc25 H ?_; clear H; intro g w' H q1 q2; clear q1 q2)
  refine (span_any 41 41 (by omega) (by omega) _ (by rfl) (by rfl)).mono ?_
  rintro e w2 ⟨rfl, b2⟩
  replace H := H.call b2 (Nat.le_refl _)
  go_wp2_with (first | (with_reducible refine at_store 24 ?_; refine wl_store25 0 H rfl rfl rfl ?_; clear H; intro w' H) | (with_reducible refine at_load 24 ?_; refine wl_load25 0 H rfl rfl ?_))
  refine bodyPost_ret (results_cell1 rfl _ _ g _ rfl (load25 (H.get 0 rfl))) rfl ?_
  exact ⟨rfl, H.below⟩
set_option maxHeartbeats 4000000 in
theorem esc_42 (w : World) : Calls Tryz.prog 162 #[.int .u8 42] w fun e w' => e = .returned (.tuple #[setV (span 42 42), .bool true]) ∧ Below w.heap.size w w' := by
  have H := St.start Nope w
  go_enter Tryz.func162, Tryz.ntmps162
  go_wp2_with (with_reducible refine at_alloc 24 ?_; refine wl_alloc25 H ?_; clear H; intro g w' H q1 q2; clear q1 q2)
  refine (span_any 42 42 (by omega) (by omega) _ (by rfl) (by rfl)).mono ?_
  rintro e w2 ⟨rfl, b2⟩
  replace H := H.call b2 (Nat.le_refl _)
  go_wp2_with (first | (with_reducible refine at_store 24 ?_; refine wl_store25 0 H rfl rfl rfl ?_; clear H; intro w' H) | (with_reducible refine at_load 24 ?_; refine wl_load25 0 H rfl rfl ?_))
  refine bodyPost_ret (results_cell1 rfl _ _ g _ rfl (load25 (H.get 0 rfl))) rfl ?_
  exact ⟨rfl, H.below⟩
set_option maxHeartbeats 4000000 in
theorem esc_43 (w : World) : Calls Tryz.prog 162 #[.int .u8 43] w fun e w' => e = .returned (.tuple #[setV (span 43 43), .bool true]) ∧ Below w.heap.size w w' := by
  have H := St.start Nope w
  go_enter Tryz.func162, Tryz.ntmps162
  go_wp2_with (with_reducible refine at_alloc 24 ?_; refine wl_alloc25 H ?_; clear H; intro g w' H q1 q2; clear q1 q2)
  refine (span_any 43 43 (by omega) (by omega) _ (by rfl) (by rfl)).mono ?_
  rintro e w2 ⟨rfl, b2⟩
  replace H := H.call b2 (Nat.le_refl _)
  go_wp2_with (first | (with_reducible refine at_store 24 ?_; refine wl_store25 0 H rfl rfl rfl ?_; clear H; intro w' H) | (with_reducible refine at_load 24 ?_; refine wl_load25 0 H rfl rfl ?_))
  refine bodyPost_ret (results_cell1 rfl _ _ g _ rfl (load25 (H.get 0 rfl))) rfl ?_
  exact ⟨rfl, H.below⟩
set_option maxHeartbeats 4000000 in
theorem esc_63 (w : World) : Calls Tryz.prog 162 #[.int .u8 63] w fun e w' => e = .returned (.tuple #[setV (span 63 63), .bool true]) ∧ Below w.heap.size w w' := by
  have H := St.start Nope w
  go_enter Tryz.func162, Tryz.ntmps162
  go_wp2_with (with_reducible refine at_alloc 24 ?_; refine wl_alloc25 H ?_; clear H; intro g w' H q1 q2; clear q1 q2)
  refine (span_any 63 63 (by omega) (by omega) _ (by rfl) (by rfl)).mono ?_
  rintro e w2 ⟨rfl, b2⟩
  replace H := H.call b2 (Nat.le_refl _)
  go_wp2_with (first | (with_reducible refine at_store 24 ?_; refine wl_store25 0 H rfl rfl rfl ?_; clear H; intro w' H) | (with_reducible refine at_load 24 ?_; refine wl_load25 0 H rfl rfl ?_))
  refine bodyPost_ret (results_cell1 rfl _ _ g _ rfl (load25 (H.get 0 rfl))) rfl ?_
  exact ⟨rfl, H.below⟩
set_option maxHeartbeats 4000000 in
theorem esc_123 (w : World) : Calls Tryz.prog 162 #[.int .u8 123] w fun e w' => e = .returned (.tuple #[setV (span 123 123), .bool true]) ∧ Below w.heap.size w w' := by
  have H := St.start Nope w
  go_enter Tryz.func162, Tryz.ntmps162
  go_wp2_with (with_reducible refine at_alloc 24 ?_; refine wl_alloc25 H ?_; clear H; intro g w' H q1 q2; clear q1 q2)
  refine (span_any 123 123 (by omega) (by omega) _ (by rfl) (by rfl)).mono ?_
  rintro e w2 ⟨rfl, b2⟩
  replace H := H.call b2 (Nat.le_refl _)
  go_wp2_with (first | (with_reducible refine at_store 24 ?_; refine wl_store25 0 H rfl rfl rfl ?_; clear H; intro w' H) | (with_reducible refine at_load 24 ?_; refine wl_load25 0 H rfl rfl ?_))
  refine bodyPost_ret (results_cell1 rfl _ _ g _ rfl (load25 (H.get 0 rfl))) rfl ?_
  exact ⟨rfl, H.below⟩
set_option maxHeartbeats 4000000 in
theorem esc_125 (w : World) : Calls Tryz.prog 162 #[.int .u8 125] w fun e w' => e = .returned (.tuple #[setV (span 125 125), .bool true]) ∧ Below w.heap.size w w' := by
  have H := St.start Nope w
  go_enter Tryz.func162, Tryz.ntmps162
  go_wp2_with (with_reducible refine at_alloc 24 ?_; refine wl_alloc25 H ?_; clear H; intro g w' H q1 q2; clear q1 q2)
  refine (span_any 125 125 (by omega) (by omega) _ (by rfl) (by rfl)).mono ?_
  rintro e w2 ⟨rfl, b2⟩
  replace H := H.call b2 (Nat.le_refl _)
  go_wp2_with (first | (with_reducible refine at_store 24 ?_; refine wl_store25 0 H rfl rfl rfl ?_; clear H; intro w' H) | (with_reducible refine at_load 24 ?_; refine wl_load25 0 H rfl rfl ?_))
  refine bodyPost_ret (results_cell1 rfl _ _ g _ rfl (load25 (H.get 0 rfl))) rfl ?_
  exact ⟨rfl, H.below⟩
set_option maxHeartbeats 4000000 in
theorem esc_94 (w : World) : Calls Tryz.prog 162 #[.int .u8 94] w fun e w' => e = .returned (.tuple #[setV (span 94 94), .bool true]) ∧ Below w.heap.size w w' := by
  have H := St.start Nope w
  go_enter Tryz.func162, Tryz.ntmps162
  go_wp2_with (with_reducible refine at_alloc 24 ?_; refine wl_alloc25 H ?_; clear H; intro g w' H q1 q2; clear q1 q2)
  refine (span_any 94 94 (by omega) (by omega) _ (by rfl) (by rfl)).mono ?_
  rintro e w2 ⟨rfl, b2⟩
  replace H := H.call b2 (Nat.le_refl _)
  go_wp2_with (first | (with_reducible refine at_store 24 ?_; refine wl_store25 0 H rfl rfl rfl ?_; clear H; intro w' H) | (with_reducible refine at_load 24 ?_; refine wl_load25 0 H rfl rfl ?_))
  refine bodyPost_ret (results_cell1 rfl _ _ g _ rfl (load25 (H.get 0 rfl))) rfl ?_
  exact ⟨rfl, H.below⟩
set_option maxHeartbeats 4000000 in
theorem esc_36 (w : World) : Calls Tryz.prog 162 #[.int .u8 36] w fun e w' => e = .returned (.tuple #[setV (span 36 36), .bool true]) ∧ Below w.heap.size w w' := by
  have H := St.start Nope w
  go_enter Tryz.func162, Tryz.ntmps162
  go_wp2_with (with_reducible refine at_alloc 24 ?_; refine wl_alloc25 H ?_; clear H; intro g w' H q1 q2; clear q1 q2)
  refine (span_any 36 36 (by omega) (by omega) _ (by rfl) (by rfl)).mono ?_
  rintro e w2 ⟨rfl, b2⟩
  replace H := H.call b2 (Nat.le_refl _)
  go_wp2_with (first | (with_reducible refine at_store 24 ?_; refine wl_store25 0 H rfl rfl rfl ?_; clear H; intro w' H) | (with_reducible refine at_load 24 ?_; refine wl_load25 0 H rfl rfl ?_))
  refine bodyPost_ret (results_cell1 rfl _ _ g _ rfl (load25 (H.get 0 rfl))) rfl ?_
  exact ⟨rfl, H.below⟩
set_option maxHeartbeats 4000000 in
theorem esc_45 (w : World) : Calls Tryz.prog 162 #[.int .u8 45] w fun e w' => e = .returned (.tuple #[setV (span 45 45), .bool true]) ∧ Below w.heap.size w w' := by
  have H := St.start Nope w
  go_enter Tryz.func162, Tryz.ntmps162
  go_wp2_with (with_reducible refine at_alloc 24 ?_; refine wl_alloc25 H ?_; clear H; intro g w' H q1 q2; clear q1 q2)
  refine (span_any 45 45 (by omega) (by omega) _ (by rfl) (by rfl)).mono ?_
  rintro e w2 ⟨rfl, b2⟩
  replace H := H.call b2 (Nat.le_refl _)
  go_wp2_with (first | (with_reducible refine at_store 24 ?_; refine wl_store25 0 H rfl rfl rfl ?_; clear H; intro w' H) | (with_reducible refine at_load 24 ?_; refine wl_load25 0 H rfl rfl ?_))
  refine bodyPost_ret (results_cell1 rfl _ _ g _ rfl (load25 (H.get 0 rfl))) rfl ?_
  exact ⟨rfl, H.below⟩
set_option maxHeartbeats 4000000 in
theorem esc_47 (w : World) : Calls Tryz.prog 162 #[.int .u8 47] w fun e w' => e = .returned (.tuple #[setV (span 47 47), .bool true]) ∧ Below w.heap.size w w' := by
  have H := St.start Nope w
  go_enter Tryz.func162, Tryz.ntmps162
  go_wp2_with (with_reducible refine at_alloc 24 ?_; refine wl_alloc25 H ?_; clear H; intro g w' H q1 q2; clear q1 q2)
  refine (span_any 47 47 (by omega) (by omega) _ (by rfl) (by rfl)).mono ?_
  rintro e w2 ⟨rfl, b2⟩
  replace H := H.call b2 (Nat.le_refl _)
  go_wp2_with (first | (with_reducible refine at_store 24 ?_; refine wl_store25 0 H rfl rfl rfl ?_; clear H; intro w' H) | (with_reducible refine at_load 24 ?_; refine wl_load25 0 H rfl rfl ?_))
  refine bodyPost_ret (results_cell1 rfl _ _ g _ rfl (load25 (H.get 0 rfl))) rfl ?_
  exact ⟨rfl, H.below⟩
set_option maxHeartbeats 4000000 in
theorem esc_124 (w : World) : Calls Tryz.prog 162 #[.int .u8 124] w fun e w' => e = .returned (.tuple #[setV (span 124 124), .bool true]) ∧ Below w.heap.size w w' := by
  have H := St.start Nope w
  go_enter Tryz.func162, Tryz.ntmps162
  go_wp2_with (with_reducible refine at_alloc 24 ?_; refine wl_alloc25 H ?_; clear H; intro g w' H q1 q2; clear q1 q2)
  refine (span_any 124 124 (by omega) (by omega) _ (by rfl) (by rfl)).mono ?_
  rintro e w2 ⟨rfl, b2⟩
  replace H := H.call b2 (Nat.le_refl _)
  go_wp2_with (first | (with_reducible refine at_store 24 ?_; refine wl_store25 0 H rfl rfl rfl ?_; clear H; intro w' H) | (with_reducible refine at_load 24 ?_; refine wl_load25 0 H rfl rfl ?_))
  refine bodyPost_ret (results_cell1 rfl _ _ g _ rfl (load25 (H.get 0 rfl))) rfl ?_
  exact ⟨rfl, H.below⟩
set_option maxHeartbeats 4000000 in
theorem esc_110 (w : World) : Calls Tryz.prog 162 #[.int .u8 110] w fun e w' => e = .returned (.tuple #[setV (span 10 10), .bool true]) ∧ Below w.heap.size w w' := by
  have H := St.start Nope w
  go_enter Tryz.func162, Tryz.ntmps162
  go_wp2_with (with_reducible refine at_alloc 24 ?_; refine wl_alloc25 H ?_; clear H; intro g w' H q1 q2; clear q1 q2)
  refine (span_any 10 10 (by omega) (by omega) _ (by rfl) (by rfl)).mono ?_
  rintro e w2 ⟨rfl, b2⟩
  replace H := H.call b2 (Nat.le_refl _)
  go_wp2_with (first | (with_reducible refine at_store 24 ?_; refine wl_store25 0 H rfl rfl rfl ?_; clear H; intro w' H) | (with_reducible refine at_load 24 ?_; refine wl_load25 0 H rfl rfl ?_))
  refine bodyPost_ret (results_cell1 rfl _ _ g _ rfl (load25 (H.get 0 rfl))) rfl ?_
  exact ⟨rfl, H.below⟩
set_option maxHeartbeats 4000000 in
theorem esc_116 (w : World) : Calls Tryz.prog 162 #[.int .u8 116] w fun e w' => e = .returned (.tuple #[setV (span 9 9), .bool true]) ∧ Below w.heap.size w w' := by
  have H := St.start Nope w
  go_enter Tryz.func162, Tryz.ntmps162
  go_wp2_with (with_reducible refine at_alloc 24 ?_; refine wl_alloc25 H ?_; clear H; intro g w' H q1 q2; clear q1 q2)
  refine (span_any 9 9 (by omega) (by omega) _ (by rfl) (by rfl)).mono ?_
  rintro e w2 ⟨rfl, b2⟩
  replace H := H.call b2 (Nat.le_refl _)
  go_wp2_with (first | (with_reducible refine at_store 24 ?_; refine wl_store25 0 H rfl rfl rfl ?_; clear H; intro w' H) | (with_reducible refine at_load 24 ?_; refine wl_load25 0 H rfl rfl ?_))
  refine bodyPost_ret (results_cell1 rfl _ _ g _ rfl (load25 (H.get 0 rfl))) rfl ?_
  exact ⟨rfl, H.below⟩
set_option maxHeartbeats 4000000 in
theorem esc_68 (w : World) : Calls Tryz.prog 162 #[.int .u8 68] w fun e w' => e = .returned (.tuple #[setV (oth (span 48 57)), .bool true]) ∧ Below w.heap.size w w' := by
  have H := St.start Nope w
  go_enter Tryz.func162, Tryz.ntmps162
  go_wp2_with (with_reducible refine at_alloc 24 ?_; refine wl_alloc25 H ?_; clear H; intro g w' H q1 q2; clear q1 q2)
  refine (span_any 48 57 (by omega) (by omega) _ (by rfl) (by rfl)).mono ?_
  rintro e w2 ⟨rfl, b2⟩
  replace H := H.call b2 (Nat.le_refl _)
  go_wp2_with (first | (with_reducible refine at_store 24 ?_; refine wl_store25 0 H rfl rfl rfl ?_; clear H; intro w' H) | (with_reducible refine at_load 24 ?_; refine wl_load25 0 H rfl rfl ?_))
  refine (others_any _ _).mono ?_
  rintro e w3 ⟨rfl, b3⟩
  replace H := H.call b3 (Nat.le_refl _)
  go_wp2_with (first | (with_reducible refine at_store 24 ?_; refine wl_store25 0 H rfl rfl rfl ?_; clear H; intro w' H) | (with_reducible refine at_load 24 ?_; refine wl_load25 0 H rfl rfl ?_))
  refine bodyPost_ret (results_cell1 rfl _ _ g _ rfl (load25 (H.get 0 rfl))) rfl ?_
  exact ⟨rfl, H.below⟩
set_option maxHeartbeats 4000000 in
theorem esc_100 (w : World) : Calls Tryz.prog 162 #[.int .u8 100] w fun e w' => e = .returned (.tuple #[setV (span 48 57), .bool true]) ∧ Below w.heap.size w w' := by
  have H := St.start Nope w
  go_enter Tryz.func162, Tryz.ntmps162
  go_wp2_with (with_reducible refine at_alloc 24 ?_; refine wl_alloc25 H ?_; clear H; intro g w' H q1 q2; clear q1 q2)
  refine (span_any 48 57 (by omega) (by omega) _ (by rfl) (by rfl)).mono ?_
  rintro e w2 ⟨rfl, b2⟩
  replace H := H.call b2 (Nat.le_refl _)
  go_wp2_with (first | (with_reducible refine at_store 24 ?_; refine wl_store25 0 H rfl rfl rfl ?_; clear H; intro w' H) | (with_reducible refine at_load 24 ?_; refine wl_load25 0 H rfl rfl ?_))
  refine bodyPost_ret (results_cell1 rfl _ _ g _ rfl (load25 (H.get 0 rfl))) rfl ?_
  exact ⟨rfl, H.below⟩
set_option maxHeartbeats 4000000 in
theorem esc_87 (w : World) : Calls Tryz.prog 162 #[.int .u8 87] w fun e w' => e = .returned (.tuple #[setV (oth wordS), .bool true]) ∧ Below w.heap.size w w' := by
  have H := St.start Nope w
  go_enter Tryz.func162, Tryz.ntmps162
  go_wp2_with (with_reducible refine at_alloc 24 ?_; refine wl_alloc25 H ?_; clear H; intro g w' H q1 q2; clear q1 q2)
  refine (span_any 65 90 (by omega) (by omega) _ (by rfl) (by rfl)).mono ?_
  rintro e w2 ⟨rfl, b2⟩
  replace H := H.call b2 (Nat.le_refl _)
  go_wp2_with fail
  refine (span_any 97 122 (by omega) (by omega) _ (by rfl) (by rfl)).mono ?_
  rintro e w2 ⟨rfl, b2⟩
  replace H := H.call b2 (Nat.le_refl _)
  go_wp2_with fail
  refine (span_any 48 57 (by omega) (by omega) _ (by rfl) (by rfl)).mono ?_
  rintro e w2 ⟨rfl, b2⟩
  replace H := H.call b2 (Nat.le_refl _)
  go_wp2_with fail
  refine (span_any 95 95 (by omega) (by omega) _ (by rfl) (by rfl)).mono ?_
  rintro e w2 ⟨rfl, b2⟩
  replace H := H.call b2 (Nat.le_refl _)
  go_wp2_with (with_reducible refine at_bs 4 ?_; refine wl_bs4 H rfl rfl rfl rfl ?_; clear H; intro b w' H HU)
  refine (union_any _ _ _ _ HU).mono ?_
  rintro e w4 ⟨rfl, b4⟩
  replace H := H.call b4 (Nat.le_refl _)
  clear HU
  go_wp2_with (first | (with_reducible refine at_store 24 ?_; refine wl_store25 0 H rfl rfl rfl ?_; clear H; intro w' H) | (with_reducible refine at_load 24 ?_; refine wl_load25 0 H rfl rfl ?_))
  refine (others_any _ _).mono ?_
  rintro e w3 ⟨rfl, b3⟩
  replace H := H.call b3 (Nat.le_refl _)
  go_wp2_with (first | (with_reducible refine at_store 24 ?_; refine wl_store25 0 H rfl rfl rfl ?_; clear H; intro w' H) | (with_reducible refine at_load 24 ?_; refine wl_load25 0 H rfl rfl ?_))
  refine bodyPost_ret (results_cell1 rfl _ _ g _ rfl (load25 (H.get 0 rfl))) rfl ?_
  exact ⟨rfl, H.below⟩
set_option maxHeartbeats 4000000 in
theorem esc_119 (w : World) : Calls Tryz.prog 162 #[.int .u8 119] w fun e w' => e = .returned (.tuple #[setV (wordS), .bool true]) ∧ Below w.heap.size w w' := by
  have H := St.start Nope w
  go_enter Tryz.func162, Tryz.ntmps162
  go_wp2_with (with_reducible refine at_alloc 24 ?_; refine wl_alloc25 H ?_; clear H; intro g w' H q1 q2; clear q1 q2)
  refine (span_any 65 90 (by omega) (by omega) _ (by rfl) (by rfl)).mono ?_
  rintro e w2 ⟨rfl, b2⟩
  replace H := H.call b2 (Nat.le_refl _)
  go_wp2_with fail
  refine (span_any 97 122 (by omega) (by omega) _ (by rfl) (by rfl)).mono ?_
  rintro e w2 ⟨rfl, b2⟩
  replace H := H.call b2 (Nat.le_refl _)
  go_wp2_with fail
  refine (span_any 48 57 (by omega) (by omega) _ (by rfl) (by rfl)).mono ?_
  rintro e w2 ⟨rfl, b2⟩
  replace H := H.call b2 (Nat.le_refl _)
  go_wp2_with fail
  refine (span_any 95 95 (by omega) (by omega) _ (by rfl) (by rfl)).mono ?_
  rintro e w2 ⟨rfl, b2⟩
  replace H := H.call b2 (Nat.le_refl _)
  go_wp2_with (with_reducible refine at_bs 4 ?_; refine wl_bs4 H rfl rfl rfl rfl ?_; clear H; intro b w' H HU)
  refine (union_any _ _ _ _ HU).mono ?_
  rintro e w4 ⟨rfl, b4⟩
  replace H := H.call b4 (Nat.le_refl _)
  clear HU
  go_wp2_with (first | (with_reducible refine at_store 24 ?_; refine wl_store25 0 H rfl rfl rfl ?_; clear H; intro w' H) | (with_reducible refine at_load 24 ?_; refine wl_load25 0 H rfl rfl ?_))
  refine bodyPost_ret (results_cell1 rfl _ _ g _ rfl (load25 (H.get 0 rfl))) rfl ?_
  exact ⟨rfl, H.below⟩
set_option maxHeartbeats 4000000 in
theorem esc_83 (w : World) : Calls Tryz.prog 162 #[.int .u8 83] w fun e w' => e = .returned (.tuple #[setV (oth spaceS), .bool true]) ∧ Below w.heap.size w w' := by
  have H := St.start Nope w
  go_enter Tryz.func162, Tryz.ntmps162
  go_wp2_with (with_reducible refine at_alloc 24 ?_; refine wl_alloc25 H ?_; clear H; intro g w' H q1 q2; clear q1 q2)
  refine (span_any 9 10 (by omega) (by omega) _ (by rfl) (by rfl)).mono ?_
  rintro e w2 ⟨rfl, b2⟩
  replace H := H.call b2 (Nat.le_refl _)
  go_wp2_with fail
  refine (span_any 12 13 (by omega) (by omega) _ (by rfl) (by rfl)).mono ?_
  rintro e w2 ⟨rfl, b2⟩
  replace H := H.call b2 (Nat.le_refl _)
  go_wp2_with fail
  refine (span_any 32 32 (by omega) (by omega) _ (by rfl) (by rfl)).mono ?_
  rintro e w2 ⟨rfl, b2⟩
  replace H := H.call b2 (Nat.le_refl _)
  go_wp2_with (with_reducible refine at_bs 3 ?_; refine wl_bs3 H rfl rfl rfl ?_; clear H; intro b w' H HU)
  refine (union_any _ _ _ _ HU).mono ?_
  rintro e w4 ⟨rfl, b4⟩
  replace H := H.call b4 (Nat.le_refl _)
  clear HU
  go_wp2_with (first | (with_reducible refine at_store 24 ?_; refine wl_store25 0 H rfl rfl rfl ?_; clear H; intro w' H) | (with_reducible refine at_load 24 ?_; refine wl_load25 0 H rfl rfl ?_))
  refine (others_any _ _).mono ?_
  rintro e w3 ⟨rfl, b3⟩
  replace H := H.call b3 (Nat.le_refl _)
  go_wp2_with (first | (with_reducible refine at_store 24 ?_; refine wl_store25 0 H rfl rfl rfl ?_; clear H; intro w' H) | (with_reducible refine at_load 24 ?_; refine wl_load25 0 H rfl rfl ?_))
  refine bodyPost_ret (results_cell1 rfl _ _ g _ rfl (load25 (H.get 0 rfl))) rfl ?_
  exact ⟨rfl, H.below⟩
set_option maxHeartbeats 4000000 in
theorem esc_115 (w : World) : Calls Tryz.prog 162 #[.int .u8 115] w fun e w' => e = .returned (.tuple #[setV (spaceS), .bool true]) ∧ Below w.heap.size w w' := by
  have H := St.start Nope w
  go_enter Tryz.func162, Tryz.ntmps162
  go_wp2_with (with_reducible refine at_alloc 24 ?_; refine wl_alloc25 H ?_; clear H; intro g w' H q1 q2; clear q1 q2)
  refine (span_any 9 10 (by omega) (by omega) _ (by rfl) (by rfl)).mono ?_
  rintro e w2 ⟨rfl, b2⟩
  replace H := H.call b2 (Nat.le_refl _)
  go_wp2_with fail
  refine (span_any 12 13 (by omega) (by omega) _ (by rfl) (by rfl)).mono ?_
  rintro e w2 ⟨rfl, b2⟩
  replace H := H.call b2 (Nat.le_refl _)
  go_wp2_with fail
  refine (span_any 32 32 (by omega) (by omega) _ (by rfl) (by rfl)).mono ?_
  rintro e w2 ⟨rfl, b2⟩
  replace H := H.call b2 (Nat.le_refl _)
  go_wp2_with (with_reducible refine at_bs 3 ?_; refine wl_bs3 H rfl rfl rfl ?_; clear H; intro b w' H HU)
  refine (union_any _ _ _ _ HU).mono ?_
  rintro e w4 ⟨rfl, b4⟩
  replace H := H.call b4 (Nat.le_refl _)
  clear HU
  go_wp2_with (first | (with_reducible refine at_store 24 ?_; refine wl_store25 0 H rfl rfl rfl ?_; clear H; intro w' H) | (with_reducible refine at_load 24 ?_; refine wl_load25 0 H rfl rfl ?_))
  refine bodyPost_ret (results_cell1 rfl _ _ g _ rfl (load25 (H.get 0 rfl))) rfl ?_
  exact ⟨rfl, H.below⟩
set_option maxHeartbeats 4000000 in
theorem esc_none (c : Int) (n92 : ¬ c = 92) (n46 : ¬ c = 46) (n91 : ¬ c = 91) (n93 : ¬ c = 93) (n40 : ¬ c = 40) (n41 : ¬ c = 41) (n42 : ¬ c = 42) (n43 : ¬ c = 43) (n63 : ¬ c = 63) (n123 : ¬ c = 123) (n125 : ¬ c = 125) (n94 : ¬ c = 94) (n36 : ¬ c = 36) (n45 : ¬ c = 45) (n47 : ¬ c = 47) (n124 : ¬ c = 124) (n110 : ¬ c = 110) (n116 : ¬ c = 116) (n68 : ¬ c = 68) (n100 : ¬ c = 100) (n87 : ¬ c = 87) (n119 : ¬ c = 119) (n83 : ¬ c = 83) (n115 : ¬ c = 115) (w : World) : Calls Tryz.prog 162 #[.int .u8 c] w fun e w' => e = .returned (.tuple #[setV (noSet), .bool false]) ∧ Below w.heap.size w w' := by
  have H := St.start Nope w
  have k92 : (c == 92) = false := beq_eq_false_iff_ne.2 n92
  have k46 : (c == 46) = false := beq_eq_false_iff_ne.2 n46
  have k91 : (c == 91) = false := beq_eq_false_iff_ne.2 n91
  have k93 : (c == 93) = false := beq_eq_false_iff_ne.2 n93
  have k40 : (c == 40) = false := beq_eq_false_iff_ne.2 n40
  have k41 : (c == 41) = false := beq_eq_false_iff_ne.2 n41
  have k42 : (c == 42) = false := beq_eq_false_iff_ne.2 n42
  have k43 : (c == 43) = false := beq_eq_false_iff_ne.2 n43
  have k63 : (c == 63) = false := beq_eq_false_iff_ne.2 n63
  have k123 : (c == 123) = false := beq_eq_false_iff_ne.2 n123
  have k125 : (c == 125) = false := beq_eq_false_iff_ne.2 n125
  have k94 : (c == 94) = false := beq_eq_false_iff_ne.2 n94
  have k36 : (c == 36) = false := beq_eq_false_iff_ne.2 n36
  have k45 : (c == 45) = false := beq_eq_false_iff_ne.2 n45
  have k47 : (c == 47) = false := beq_eq_false_iff_ne.2 n47
  have k124 : (c == 124) = false := beq_eq_false_iff_ne.2 n124
  have k110 : (c == 110) = false := beq_eq_false_iff_ne.2 n110
  have k116 : (c == 116) = false := beq_eq_false_iff_ne.2 n116
  have k68 : (c == 68) = false := beq_eq_false_iff_ne.2 n68
  have k100 : (c == 100) = false := beq_eq_false_iff_ne.2 n100
  have k87 : (c == 87) = false := beq_eq_false_iff_ne.2 n87
  have k119 : (c == 119) = false := beq_eq_false_iff_ne.2 n119
  have k83 : (c == 83) = false := beq_eq_false_iff_ne.2 n83
  have k115 : (c == 115) = false := beq_eq_false_iff_ne.2 n115
  clear n92 n46 n91 n93 n40 n41 n42 n43 n63 n123 n125 n94 n36 n45 n47 n124 n110 n116 n68 n100 n87 n119 n83 n115
  go_enter Tryz.func162, Tryz.ntmps162
  go_wp2_with (first | (with_reducible refine at_alloc 24 ?_; refine wl_alloc25 H ?_; clear H; intro g w' H q1 q2; clear q1 q2) | (with_reducible refine at_store 24 ?_; refine wl_store25 0 (s' := noSet) H rfl rfl rfl ?_; clear H; intro w' H))
  refine bodyPost_ret (results_cell1 rfl _ _ g _ rfl (load25 (H.get 0 rfl))) rfl ?_
  exact ⟨rfl, H.below⟩
theorem escaped_any (c : Int) (w : World) : Calls Tryz.prog 162 #[.int .u8 c] w fun e w' => e = .returned (.tuple #[setV ((esc c).getD noSet), .bool (esc c).isSome]) ∧ Below w.heap.size w w' := by
  by_cases h : c ∈ selfs
  · have hh := h
    simp only [selfs, List.mem_cons, List.not_mem_nil, or_false] at h
    rw [show esc c = some (span c.toNat c.toNat) by unfold esc; rw [if_pos hh]]
    rcases h with rfl | rfl | rfl | rfl | rfl | rfl | rfl | rfl | rfl | rfl | rfl | rfl | rfl | rfl | rfl | rfl
    · exact esc_92 w
    · exact esc_46 w
    · exact esc_91 w
    · exact esc_93 w
    · exact esc_40 w
    · exact esc_41 w
    · exact esc_42 w
    · exact esc_43 w
    · exact esc_63 w
    · exact esc_123 w
    · exact esc_125 w
    · exact esc_94 w
    · exact esc_36 w
    · exact esc_45 w
    · exact esc_47 w
    · exact esc_124 w
  · unfold esc
    rw [if_neg h]
    simp only [selfs, List.mem_cons, List.not_mem_nil, or_false, not_or] at h
    obtain ⟨n92, n46, n91, n93, n40, n41, n42, n43, n63, n123, n125, n94, n36, n45, n47, n124⟩ := h
    by_cases n110 : c = 110
    · subst n110; simp only [show ¬ ((110 : Int) = 0) by decide, ↓reduceIte, Int.reduceEq, Option.getD_some, Option.isSome_some]; exact esc_110 w
    · rw [if_neg n110]
      by_cases n116 : c = 116
      · subst n116; simp only [show ¬ ((116 : Int) = 0) by decide, ↓reduceIte, Int.reduceEq, Option.getD_some, Option.isSome_some]; exact esc_116 w
      · rw [if_neg n116]
        by_cases n68 : c = 68
        · subst n68; simp only [show ¬ ((68 : Int) = 0) by decide, ↓reduceIte, Int.reduceEq, Option.getD_some, Option.isSome_some]; exact esc_68 w
        · rw [if_neg n68]
          by_cases n100 : c = 100
          · subst n100; simp only [show ¬ ((100 : Int) = 0) by decide, ↓reduceIte, Int.reduceEq, Option.getD_some, Option.isSome_some]; exact esc_100 w
          · rw [if_neg n100]
            by_cases n87 : c = 87
            · subst n87; simp only [show ¬ ((87 : Int) = 0) by decide, ↓reduceIte, Int.reduceEq, Option.getD_some, Option.isSome_some]; exact esc_87 w
            · rw [if_neg n87]
              by_cases n119 : c = 119
              · subst n119; simp only [show ¬ ((119 : Int) = 0) by decide, ↓reduceIte, Int.reduceEq, Option.getD_some, Option.isSome_some]; exact esc_119 w
              · rw [if_neg n119]
                by_cases n83 : c = 83
                · subst n83; simp only [show ¬ ((83 : Int) = 0) by decide, ↓reduceIte, Int.reduceEq, Option.getD_some, Option.isSome_some]; exact esc_83 w
                · rw [if_neg n83]
                  by_cases n115 : c = 115
                  · subst n115; simp only [show ¬ ((115 : Int) = 0) by decide, ↓reduceIte, Int.reduceEq, Option.getD_some, Option.isSome_some]; exact esc_115 w
                  · rw [if_neg n115]
                    exact esc_none c n92 n46 n91 n93 n40 n41 n42 n43 n63 n123 n125 n94 n36 n45 n47 n124 n110 n116 n68 n100 n87 n119 n83 n115 w
end Go.Proofs.YtkfdikpnnkbgaaaGreatDoor
