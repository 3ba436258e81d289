/-
  Proved: BitsWrites answers true for all inputs. No other condition.
-/
import Derived.Test.YtgmhnfgpkoebiaaRows
import Derived.Test.YtgmhnfgpkoebiaaI
import Derived.Test.YtgmhnfgpkoebiaaJ
import Derived.Test.YtgmhnfgpkoebiaaK
import Derived.Test.YtgmhnfgpkoebiaaL
import Derived.Test.YtgmhnfgpkoebiaaM
import Derived.Test.YtgmhnfgpkoebiaaN
import Derived.Test.YtgmhnfgpkoebiaaO
import Derived.Test.YtgmhnfgpkoebiaaP
import Derived.ShutString
import Derived.ChangeOld
import Derived.Below
namespace Go.Proofs.Ytgmhnfgpkoebiaa.bitsWrites
open Go.ChangeShapes Go.WideShapes Go.ChangeAt Go.RowKit
open Go.ChangeMaps (open_string shut_string)
set_option linter.unusedVariables false

theorem wpAnyH_more {P : Program} {md : Region.Mode} {ops : Array Oper} {Q : Exit → Act → World → Prop} {S S' : World → Prop} (hS : ∀ w, S' w → S w) : ∀ (fuel : Nat) (listed : Array Bool) (a : Act) (w : World), wpAnyH P md ops Q S' fuel listed a w → wpAnyH P md ops Q S fuel listed a w
  | 0, _, _, _, h => h
  | fuel + 1, _, _, _, h => ⟨h.1, fun i hi => wpOp_mono (fun a' w' h' => ⟨hS w' h'.1, wpAnyH_more hS fuel _ a' w' h'.2⟩) (h.2 i hi)⟩

set_option maxHeartbeats 4000000 in
theorem walk_few (b off : Nat) (len cap : Nat) (ps : List (Nat × Int)) (w : World) (H : HasP w (some ⟨b, off, none⟩) len cap ps) (h0 : 0 < len) (h1 : len ≤ 100) :
    Calls Try.prog 3 #[.slice (some ⟨b, off, none⟩) len cap] w fun e w' => e = .returned (.bool true) ∧ Below w.heap.size w w' := by
  have hle := H.le
  have hcb := H.capb
  unfold maxLen at hcb
  have hblt : Hid (b < w.heap.size) := by obtain ⟨b', off', e, h1, _⟩ := H.cells (by omega); cases e; exact h1
  replace H := hide H
  go_enter Try.func3, Try.ntmps3
  go_wp2_with fail
  refine (newWr _ w.heap.size (Nat.le_refl _)).mono ?_
  rintro e w1 ⟨p, rfl, B1, W1, -⟩
  replace W1 := hide W1
  go_wp2_with fail
  obtain ⟨w3, hw3⟩ : ∃ w3, w1.alloc (.cells #[.slice none 0 0] 28) = w3 := ⟨_, rfl⟩
  have F3 : Hid (RW w3 w.heap.size w1.heap.size (.slice none 0 0) []) := by rw [← hw3]; exact ⟨heap_alloc_new w1 _, B1.size, World.ownsRow_nil _ _ _ _, by simp [Value.ownBlock]⟩
  have W3 : Hid (Wr w3 w.heap.size p (.slice none 0 0) (numB []) (List.length ([] : List Bool))) := by rw [← hw3]; exact W1.out.below ((Below.refl _ _).alloc (Nat.le_refl _) _) (Nat.le_refl _)
  have D3 : Hid (Dis p (.slice none 0 0) w1.heap.size (.slice none 0 0)) := W1.out.dis (fun k hk => by
    rcases hk with rfl | hk
    · exact Nat.le_refl _
    · cases hk)
  have b3 : Hid (Below w.heap.size w w3) := by rw [← hw3]; exact B1.alloc B1.size _
  rw [hw3]
  clear hw3 W1 B1
  generalize w1.heap.size = r at *
  go_loopw [5] (fun i wr => ∃ (k : Nat) (v u : Value) (L : List Bool), k ≤ len ∧ i = .int .i64 (k : Int) ∧ L.length ≤ 64 * k ∧ Hid (Wr wr w.heap.size p v (numB L) L.length) ∧ Hid (RW wr w.heap.size r u L) ∧ Hid (Dis p v r u) ∧ Hid (Below w.heap.size w wr)) (fun i _ => len - (intOf i).toNat)
  case atStart => exact ⟨0, _, _, [], Nat.zero_le _, rfl, Nat.zero_le _, W3, F3, D3, b3⟩
  case round =>
    clear W3 F3 D3 b3
    obtain ⟨k, v, u, L, hk, rfl, hL, W, F, D, B⟩ := hrel
    by_cases hkl : k < len
    · have hk1 : (k : Int) < (len : Int) := by omega
      have hk2 : (k : Int) < 100 := by omega
      have c1 := (H.out.look B.out k (by omega)).1
      have c2 := (H.out.look B.out k (by omega)).2
      have hx := H.out.x_lt k (by omega)
      generalize pX ps k = X at *
      generalize pC ps k = C at *
      by_cases hC : 0 ≤ C ∧ C ≤ 64
      · obtain ⟨N, rfl⟩ := Int.eq_ofNat_of_zero_le hC.1
        have hn : N ≤ 64 := by omega
        have PU := hide (putWr (w := wr.drew) (by obtain ⟨m, O, H⟩ := W.out; exact ⟨m, O.drew, H⟩ : Wr wr.drew w.heap.size p v (numB L) L.length) X N hx hn (by omega))
        clear hC
        go_wp2_with fail
        refine wp_region_noPanic ?_
        refine wp_region_held_drew (S := fun w' => w'.cell? ⟨b, off + k * 2, none⟩ = some (.int .u64 (X : Int)) ∧ w'.cell? ⟨b, off + k * 2 + 1, none⟩ = some (.int .i64 (N : Int))) (by kernel_rfl) ⟨c1, c2⟩ (fun hH0 => ?_)
        refine wpAnyH_take (i := 0) (oi := { dst := some 21, op := Op.move (Operand.tmp 3), type := 23, pos := "law.go:35", after := #[], guard := none }) (v := ?_) rfl (by kernel_rfl) (by kernel_rfl) (by kernel_rfl) (fun _ _ _ h => h) (Or.inl ⟨by rfl, ?_⟩) hH0 ?_
        rotate_left
        · intro w' hw'
          obtain ⟨s0, s1⟩ := hw'
          go_simp
          try with_reducible rfl
        try simp only [Act.put, List.setIfInBounds_toArray, List.set_cons_zero, List.set_cons_succ]
        refine wpAnyH_take (i := 1) (oi := { dst := some 22, op := Op.move (Operand.tmp 0), type := 22, pos := "law.go:35", after := #[], guard := none }) (v := ?_) rfl (by kernel_rfl) (by kernel_rfl) (by kernel_rfl) (fun _ _ _ h => h) (Or.inl ⟨by rfl, ?_⟩) hH0 ?_
        rotate_left
        · intro w' hw'
          obtain ⟨s0, s1⟩ := hw'
          go_simp
          try with_reducible rfl
        try simp only [Act.put, List.setIfInBounds_toArray, List.set_cons_zero, List.set_cons_succ]
        refine wpAnyH_take (i := 2) (oi := { dst := some 23, op := Op.move (Operand.tmp 5), type := 3, pos := "law.go:35", after := #[], guard := none }) (v := ?_) rfl (by kernel_rfl) (by kernel_rfl) (by kernel_rfl) (fun _ _ _ h => h) (Or.inl ⟨by rfl, ?_⟩) hH0 ?_
        rotate_left
        · intro w' hw'
          obtain ⟨s0, s1⟩ := hw'
          go_simp
          try with_reducible rfl
        try simp only [Act.put, List.setIfInBounds_toArray, List.set_cons_zero, List.set_cons_succ]
        refine wpAnyH_take (i := 3) (oi := { dst := some 24, op := Op.indexAddr 22 (Operand.tmp 22) (Operand.tmp 23), type := 0, pos := "law.go:35", after := #[{ on := 1, ground := Ground.data }, { on := 2, ground := Ground.data }], guard := none }) (v := ?_) rfl (by kernel_rfl) (by kernel_rfl) (by kernel_rfl) (fun _ _ _ h => h) (Or.inl ⟨by rfl, ?_⟩) hH0 ?_
        rotate_left
        · intro w' hw'
          obtain ⟨s0, s1⟩ := hw'
          go_simp
          try with_reducible rfl
        try simp only [Act.put, List.setIfInBounds_toArray, List.set_cons_zero, List.set_cons_succ]
        refine wpAnyH_take (i := 4) (oi := { dst := some 25, op := Op.fieldAddr 33 (Operand.tmp 24) 0, type := 0, pos := "law.go:35", after := #[{ on := 3, ground := Ground.data }], guard := none }) (v := ?_) rfl (by kernel_rfl) (by kernel_rfl) (by kernel_rfl) (fun _ _ _ h => h) (Or.inl ⟨by rfl, ?_⟩) hH0 ?_
        rotate_left
        · intro w' hw'
          obtain ⟨s0, s1⟩ := hw'
          go_simp
          try with_reducible rfl
        try simp only [Act.put, List.setIfInBounds_toArray, List.set_cons_zero, List.set_cons_succ]
        refine wpAnyH_take (i := 5) (oi := { dst := some 26, op := Op.load 31 (Operand.tmp 25), type := 31, pos := "law.go:35", after := #[{ on := 4, ground := Ground.data }], guard := none }) (v := ?_) rfl (by kernel_rfl) (by kernel_rfl) (by kernel_rfl) (fun _ _ _ h => h) (Or.inl ⟨by rfl, ?_⟩) hH0 ?_
        rotate_left
        · intro w' hw'
          obtain ⟨s0, s1⟩ := hw'
          go_simp
          try with_reducible rfl
        try simp only [Act.put, List.setIfInBounds_toArray, List.set_cons_zero, List.set_cons_succ]
        refine wpAnyH_take (i := 6) (oi := { dst := some 27, op := Op.move (Operand.tmp 0), type := 22, pos := "law.go:35", after := #[], guard := none }) (v := ?_) rfl (by kernel_rfl) (by kernel_rfl) (by kernel_rfl) (fun _ _ _ h => h) (Or.inl ⟨by rfl, ?_⟩) hH0 ?_
        rotate_left
        · intro w' hw'
          obtain ⟨s0, s1⟩ := hw'
          go_simp
          try with_reducible rfl
        try simp only [Act.put, List.setIfInBounds_toArray, List.set_cons_zero, List.set_cons_succ]
        refine wpAnyH_take (i := 7) (oi := { dst := some 28, op := Op.move (Operand.tmp 5), type := 3, pos := "law.go:35", after := #[], guard := none }) (v := ?_) rfl (by kernel_rfl) (by kernel_rfl) (by kernel_rfl) (fun _ _ _ h => h) (Or.inl ⟨by rfl, ?_⟩) hH0 ?_
        rotate_left
        · intro w' hw'
          obtain ⟨s0, s1⟩ := hw'
          go_simp
          try with_reducible rfl
        try simp only [Act.put, List.setIfInBounds_toArray, List.set_cons_zero, List.set_cons_succ]
        refine wpAnyH_take (i := 8) (oi := { dst := some 29, op := Op.indexAddr 22 (Operand.tmp 27) (Operand.tmp 28), type := 0, pos := "law.go:35", after := #[{ on := 6, ground := Ground.data }, { on := 7, ground := Ground.data }], guard := none }) (v := ?_) rfl (by kernel_rfl) (by kernel_rfl) (by kernel_rfl) (fun _ _ _ h => h) (Or.inl ⟨by rfl, ?_⟩) hH0 ?_
        rotate_left
        · intro w' hw'
          obtain ⟨s0, s1⟩ := hw'
          go_simp
          try with_reducible rfl
        try simp only [Act.put, List.setIfInBounds_toArray, List.set_cons_zero, List.set_cons_succ]
        refine wpAnyH_take (i := 9) (oi := { dst := some 30, op := Op.fieldAddr 33 (Operand.tmp 29) 1, type := 0, pos := "law.go:35", after := #[{ on := 8, ground := Ground.data }], guard := none }) (v := ?_) rfl (by kernel_rfl) (by kernel_rfl) (by kernel_rfl) (fun _ _ _ h => h) (Or.inl ⟨by rfl, ?_⟩) hH0 ?_
        rotate_left
        · intro w' hw'
          obtain ⟨s0, s1⟩ := hw'
          go_simp
          try with_reducible rfl
        try simp only [Act.put, List.setIfInBounds_toArray, List.set_cons_zero, List.set_cons_succ]
        refine wpAnyH_take (i := 10) (oi := { dst := some 31, op := Op.load 3 (Operand.tmp 30), type := 3, pos := "law.go:35", after := #[{ on := 9, ground := Ground.data }], guard := none }) (v := ?_) rfl (by kernel_rfl) (by kernel_rfl) (by kernel_rfl) (fun _ _ _ h => h) (Or.inl ⟨by rfl, ?_⟩) hH0 ?_
        rotate_left
        · intro w' hw'
          obtain ⟨s0, s1⟩ := hw'
          go_simp
          try with_reducible rfl
        try simp only [Act.put, List.setIfInBounds_toArray, List.set_cons_zero, List.set_cons_succ]
        refine wpAnyH_take (i := 12) (oi := { dst := some 33, op := Op.move (Operand.tmp 4), type := 25, pos := "law.go:35", after := #[], guard := none }) (v := ?_) rfl (by kernel_rfl) (by kernel_rfl) (by kernel_rfl) (fun _ _ _ h => h) (Or.inl ⟨by rfl, ?_⟩) hH0 ?_
        rotate_left
        · intro w' hw'
          obtain ⟨s0, s1⟩ := hw'
          go_simp
          try with_reducible rfl
        try simp only [Act.put, List.setIfInBounds_toArray, List.set_cons_zero, List.set_cons_succ]
        refine wpAnyH_take (i := 13) (oi := { dst := some 34, op := Op.move (Operand.tmp 0), type := 22, pos := "law.go:35", after := #[], guard := none }) (v := ?_) rfl (by kernel_rfl) (by kernel_rfl) (by kernel_rfl) (fun _ _ _ h => h) (Or.inl ⟨by rfl, ?_⟩) hH0 ?_
        rotate_left
        · intro w' hw'
          obtain ⟨s0, s1⟩ := hw'
          go_simp
          try with_reducible rfl
        try simp only [Act.put, List.setIfInBounds_toArray, List.set_cons_zero, List.set_cons_succ]
        refine wpAnyH_take (i := 14) (oi := { dst := some 35, op := Op.move (Operand.tmp 5), type := 3, pos := "law.go:35", after := #[], guard := none }) (v := ?_) rfl (by kernel_rfl) (by kernel_rfl) (by kernel_rfl) (fun _ _ _ h => h) (Or.inl ⟨by rfl, ?_⟩) hH0 ?_
        rotate_left
        · intro w' hw'
          obtain ⟨s0, s1⟩ := hw'
          go_simp
          try with_reducible rfl
        try simp only [Act.put, List.setIfInBounds_toArray, List.set_cons_zero, List.set_cons_succ]
        refine wpAnyH_take (i := 15) (oi := { dst := some 36, op := Op.indexAddr 22 (Operand.tmp 34) (Operand.tmp 35), type := 0, pos := "law.go:35", after := #[{ on := 13, ground := Ground.data }, { on := 14, ground := Ground.data }], guard := none }) (v := ?_) rfl (by kernel_rfl) (by kernel_rfl) (by kernel_rfl) (fun _ _ _ h => h) (Or.inl ⟨by rfl, ?_⟩) hH0 ?_
        rotate_left
        · intro w' hw'
          obtain ⟨s0, s1⟩ := hw'
          go_simp
          try with_reducible rfl
        try simp only [Act.put, List.setIfInBounds_toArray, List.set_cons_zero, List.set_cons_succ]
        refine wpAnyH_take (i := 16) (oi := { dst := some 37, op := Op.fieldAddr 33 (Operand.tmp 36) 0, type := 0, pos := "law.go:35", after := #[{ on := 15, ground := Ground.data }], guard := none }) (v := ?_) rfl (by kernel_rfl) (by kernel_rfl) (by kernel_rfl) (fun _ _ _ h => h) (Or.inl ⟨by rfl, ?_⟩) hH0 ?_
        rotate_left
        · intro w' hw'
          obtain ⟨s0, s1⟩ := hw'
          go_simp
          try with_reducible rfl
        try simp only [Act.put, List.setIfInBounds_toArray, List.set_cons_zero, List.set_cons_succ]
        refine wpAnyH_take (i := 17) (oi := { dst := some 38, op := Op.load 31 (Operand.tmp 37), type := 31, pos := "law.go:35", after := #[{ on := 16, ground := Ground.data }], guard := none }) (v := ?_) rfl (by kernel_rfl) (by kernel_rfl) (by kernel_rfl) (fun _ _ _ h => h) (Or.inl ⟨by rfl, ?_⟩) hH0 ?_
        rotate_left
        · intro w' hw'
          obtain ⟨s0, s1⟩ := hw'
          go_simp
          try with_reducible rfl
        try simp only [Act.put, List.setIfInBounds_toArray, List.set_cons_zero, List.set_cons_succ]
        refine wpAnyH_take (i := 18) (oi := { dst := some 39, op := Op.move (Operand.tmp 0), type := 22, pos := "law.go:35", after := #[], guard := none }) (v := ?_) rfl (by kernel_rfl) (by kernel_rfl) (by kernel_rfl) (fun _ _ _ h => h) (Or.inl ⟨by rfl, ?_⟩) hH0 ?_
        rotate_left
        · intro w' hw'
          obtain ⟨s0, s1⟩ := hw'
          go_simp
          try with_reducible rfl
        try simp only [Act.put, List.setIfInBounds_toArray, List.set_cons_zero, List.set_cons_succ]
        refine wpAnyH_take (i := 19) (oi := { dst := some 40, op := Op.move (Operand.tmp 5), type := 3, pos := "law.go:35", after := #[], guard := none }) (v := ?_) rfl (by kernel_rfl) (by kernel_rfl) (by kernel_rfl) (fun _ _ _ h => h) (Or.inl ⟨by rfl, ?_⟩) hH0 ?_
        rotate_left
        · intro w' hw'
          obtain ⟨s0, s1⟩ := hw'
          go_simp
          try with_reducible rfl
        try simp only [Act.put, List.setIfInBounds_toArray, List.set_cons_zero, List.set_cons_succ]
        refine wpAnyH_take (i := 20) (oi := { dst := some 41, op := Op.indexAddr 22 (Operand.tmp 39) (Operand.tmp 40), type := 0, pos := "law.go:35", after := #[{ on := 18, ground := Ground.data }, { on := 19, ground := Ground.data }], guard := none }) (v := ?_) rfl (by kernel_rfl) (by kernel_rfl) (by kernel_rfl) (fun _ _ _ h => h) (Or.inl ⟨by rfl, ?_⟩) hH0 ?_
        rotate_left
        · intro w' hw'
          obtain ⟨s0, s1⟩ := hw'
          go_simp
          try with_reducible rfl
        try simp only [Act.put, List.setIfInBounds_toArray, List.set_cons_zero, List.set_cons_succ]
        refine wpAnyH_take (i := 21) (oi := { dst := some 42, op := Op.fieldAddr 33 (Operand.tmp 41) 1, type := 0, pos := "law.go:35", after := #[{ on := 20, ground := Ground.data }], guard := none }) (v := ?_) rfl (by kernel_rfl) (by kernel_rfl) (by kernel_rfl) (fun _ _ _ h => h) (Or.inl ⟨by rfl, ?_⟩) hH0 ?_
        rotate_left
        · intro w' hw'
          obtain ⟨s0, s1⟩ := hw'
          go_simp
          try with_reducible rfl
        try simp only [Act.put, List.setIfInBounds_toArray, List.set_cons_zero, List.set_cons_succ]
        refine wpAnyH_take (i := 22) (oi := { dst := some 43, op := Op.load 3 (Operand.tmp 42), type := 3, pos := "law.go:35", after := #[{ on := 21, ground := Ground.data }], guard := none }) (v := ?_) rfl (by kernel_rfl) (by kernel_rfl) (by kernel_rfl) (fun _ _ _ h => h) (Or.inl ⟨by rfl, ?_⟩) hH0 ?_
        rotate_left
        · intro w' hw'
          obtain ⟨s0, s1⟩ := hw'
          go_simp
          try with_reducible rfl
        try simp only [Act.put, List.setIfInBounds_toArray, List.set_cons_zero, List.set_cons_succ]
        refine wpAnyH_ready (rs := [11]) (by kernel_rfl) (by simp) ?_
        refine AllReadyH.cons (o := { dst := some 32, op := Op.call { callee := Callee.value (Operand.func 10), args := #[Operand.tmp 21, Operand.tmp 26, Operand.tmp 31], argTypes := #[23, 31, 3] }, type := 29, pos := "law.go:35", after := #[{ on := 0, ground := Ground.data }, { on := 5, ground := Ground.data }, { on := 10, ground := Ground.data }], guard := none }) rfl (fun K hK => ?_) AllReadyH.nil
        go_simp
        refine PU.out.mono ?_
        rintro e w6 ⟨rfl, v6, W6, D6⟩
        have F6 := hide (D6.rw D.out F.out.drew)
        have c61 : w6.cell? ⟨b, off + k * 2, none⟩ = some (.int .u64 (X : Int)) := (D6.bel.cell (p := ⟨b, off + k * 2, none⟩) hblt.out).trans c1
        have c62 : w6.cell? ⟨b, off + k * 2 + 1, none⟩ = some (.int .i64 (N : Int)) := (D6.bel.cell (p := ⟨b, off + k * 2 + 1, none⟩) hblt.out).trans c2
        have B6 := hide (B.out.drew.trans D6.bel)
        replace W6 := hide W6
        clear D6 PU
        refine hK.out _ _ ⟨c61, c62⟩ (fun hH1 => ?_)
        clear hK
        try simp only [Act.put, List.setIfInBounds_toArray, List.set_cons_zero, List.set_cons_succ]
        refine wpAnyH_ready (rs := [23]) (by kernel_rfl) (by simp) ?_
        refine AllReadyH.cons (o := { dst := some 44, op := Op.call { callee := Callee.value (Operand.func 11), args := #[Operand.tmp 33, Operand.tmp 38, Operand.tmp 43], argTypes := #[25, 31, 3] }, type := 29, pos := "law.go:35", after := #[{ on := 12, ground := Ground.data }, { on := 17, ground := Ground.data }, { on := 22, ground := Ground.data }, { on := 11, ground := Ground.chain }], guard := none }) rfl (fun K hK => ?_) AllReadyH.nil
        go_simp
        refine (rput_ok F6.out.1 X N hx hn (by omega)).mono ?_
        rintro e w7 ⟨rfl, u7, L7, F7, n7, m7, B7', S7⟩
        have D7 : Did w6 w7 w.heap.size r u u7 := ⟨F6.out.1.bel B7', B7', S7⟩
        have W7 := hide (D7.wr F6.out.2.symm W6.out)
        have c71 : w7.cell? ⟨b, off + k * 2, none⟩ = some (.int .u64 (X : Int)) := (D7.bel.cell (p := ⟨b, off + k * 2, none⟩) hblt.out).trans c61
        have c72 : w7.cell? ⟨b, off + k * 2 + 1, none⟩ = some (.int .i64 (N : Int)) := (D7.bel.cell (p := ⟨b, off + k * 2 + 1, none⟩) hblt.out).trans c62
        have B7 := hide (B6.out.trans D7.bel)
        obtain ⟨a7, q7, hu7⟩ := F7.slice
        have f7 := F7.c0
        have W7a : Hid (Wr w7 w.heap.size p v6 (numB L7) L7.length) := by rw [n7, m7]; exact W7.out.1
        have W7d := hide W7.out.2
        have hL7 : L7.length ≤ 64 * (k + 1) := by omega
        replace F7 := hide F7
        have LE := hide (lenWr W7a.out)
        subst hu7
        clear D7 S7 B7' n7 m7 W7 F6 W6 B6
        obtain ⟨n7, e7⟩ : ∃ n7, L7.length = n7 := ⟨_, rfl⟩
        have W7b := W7a
        have hL7' := hL7
        rw [e7] at LE f7
        replace e7 := hide e7
        replace hL7' := hL7'
        clear W7a hL7
        refine hK.out _ _ ⟨c71, c72⟩ (fun hH2 => ?_)
        clear hK
        try simp only [Act.put, List.setIfInBounds_toArray, List.set_cons_zero, List.set_cons_succ]
        refine wpAnyH_take (i := 24) (oi := { dst := some 45, op := Op.binOp BinOp.neq 29 (Operand.tmp 32) (Operand.tmp 44) 29, type := 4, pos := "law.go:35", after := #[{ on := 11, ground := Ground.data }, { on := 23, ground := Ground.data }], guard := none }) (v := ?_) rfl (by kernel_rfl) (by kernel_rfl) (by kernel_rfl) (fun _ _ _ h => h) (Or.inl ⟨by rfl, ?_⟩) hH2 ?_
        rotate_left
        · intro w' hw'
          obtain ⟨s0, s1⟩ := hw'
          go_simp
          try with_reducible rfl
        try simp only [Act.put, List.setIfInBounds_toArray, List.set_cons_zero, List.set_cons_succ]
        refine wpAnyH_take (i := 25) (oi := { dst := some 46, op := Op.move (Operand.tmp 45), type := 4, pos := "law.go:35", after := #[{ on := 24, ground := Ground.data }, { on := 23, ground := Ground.chain }], guard := none }) (v := ?_) rfl (by kernel_rfl) (by kernel_rfl) (by kernel_rfl) (fun _ _ _ h => h) (Or.inl ⟨by rfl, ?_⟩) hH2 ?_
        rotate_left
        · intro w' hw'
          obtain ⟨s0, s1⟩ := hw'
          go_simp
          try with_reducible rfl
        try simp only [Act.put, List.setIfInBounds_toArray, List.set_cons_zero, List.set_cons_succ]
        refine wpAnyH_take (i := 26) (oi := { dst := some 47, op := Op.move (Operand.tmp 3), type := 23, pos := "law.go:35", after := #[{ on := 25, ground := Ground.guard }], guard := some (25, false) }) (v := ?_) rfl (by kernel_rfl) (by kernel_rfl) (by kernel_rfl) (fun _ _ _ h => h) (Or.inl ⟨by rfl, ?_⟩) hH2 ?_
        rotate_left
        · intro w' hw'
          obtain ⟨s0, s1⟩ := hw'
          go_simp
          try with_reducible rfl
        try simp only [Act.put, List.setIfInBounds_toArray, List.set_cons_zero, List.set_cons_succ]
        refine wpAnyH_take (i := 28) (oi := { dst := some 49, op := Op.move (Operand.tmp 4), type := 25, pos := "law.go:35", after := #[{ on := 25, ground := Ground.guard }], guard := some (25, false) }) (v := ?_) rfl (by kernel_rfl) (by kernel_rfl) (by kernel_rfl) (fun _ _ _ h => h) (Or.inl ⟨by rfl, ?_⟩) hH2 ?_
        rotate_left
        · intro w' hw'
          obtain ⟨s0, s1⟩ := hw'
          go_simp
          try with_reducible rfl
        try simp only [Act.put, List.setIfInBounds_toArray, List.set_cons_zero, List.set_cons_succ]
        refine wpAnyH_take (i := 29) (oi := { dst := some 50, op := Op.nilCheck (Operand.tmp 49), type := 0, pos := "law.go:35", after := #[{ on := 28, ground := Ground.data }, { on := 25, ground := Ground.guard }], guard := some (25, false) }) (v := ?_) rfl (by kernel_rfl) (by kernel_rfl) (by kernel_rfl) (fun _ _ _ h => h) (Or.inl ⟨by rfl, ?_⟩) hH2 ?_
        rotate_left
        · intro w' hw'
          obtain ⟨s0, s1⟩ := hw'
          go_simp
          try with_reducible rfl
        try simp only [Act.put, List.setIfInBounds_toArray, List.set_cons_zero, List.set_cons_succ]
        refine wpAnyH_take (i := 30) (oi := { dst := some 51, op := Op.fieldAddr 28 (Operand.tmp 50) 0, type := 0, pos := "law.go:35", after := #[{ on := 29, ground := Ground.data }, { on := 25, ground := Ground.guard }], guard := some (25, false) }) (v := ?_) rfl (by kernel_rfl) (by kernel_rfl) (by kernel_rfl) (fun _ _ _ h => h) (Or.inl ⟨by rfl, ?_⟩) hH2 ?_
        rotate_left
        · intro w' hw'
          obtain ⟨s0, s1⟩ := hw'
          go_simp
          try with_reducible rfl
        try simp only [Act.put, List.setIfInBounds_toArray, List.set_cons_zero, List.set_cons_succ]
        refine wpAnyH_more (S' := fun w' => (w'.cell? ⟨b, off + k * 2, none⟩ = some (.int .u64 (X : Int)) ∧ w'.cell? ⟨b, off + k * 2 + 1, none⟩ = some (.int .i64 (N : Int))) ∧ w'.cell? ⟨r, 0, none⟩ = some (.slice a7 n7 q7)) (fun _ h => h.1) _ _ _ _ ?_
        have hH3 : (w7.cell? ⟨b, off + k * 2, none⟩ = some (.int .u64 (X : Int)) ∧ w7.cell? ⟨b, off + k * 2 + 1, none⟩ = some (.int .i64 (N : Int))) ∧ w7.cell? ⟨r, 0, none⟩ = some (.slice a7 n7 q7) := ⟨hH2, f7⟩
        refine wpAnyH_take (i := 31) (oi := { dst := some 52, op := Op.load 26 (Operand.tmp 51), type := 26, pos := "law.go:35", after := #[{ on := 30, ground := Ground.data }, { on := 25, ground := Ground.guard }], guard := some (25, false) }) (v := ?_) rfl (by kernel_rfl) (by kernel_rfl) (by kernel_rfl) (fun _ _ _ h => h) (Or.inl ⟨by rfl, ?_⟩) hH3 ?_
        rotate_left
        · intro w' hw'
          obtain ⟨⟨s0, s1⟩, s2⟩ := hw'
          go_simp
          try with_reducible rfl
        try simp only [Act.put, List.setIfInBounds_toArray, List.set_cons_zero, List.set_cons_succ]
        refine wpAnyH_take (i := 32) (oi := { dst := some 53, op := Op.call { callee := Callee.builtin Builtin.len, args := #[Operand.tmp 52], argTypes := #[26] }, type := 3, pos := "law.go:35", after := #[{ on := 31, ground := Ground.data }, { on := 25, ground := Ground.guard }], guard := some (25, false) }) (v := ?_) rfl (by kernel_rfl) (by kernel_rfl) (by kernel_rfl) (fun _ _ _ h => h) (Or.inl ⟨by rfl, ?_⟩) hH3 ?_
        rotate_left
        · intro w' hw'
          obtain ⟨⟨s0, s1⟩, s2⟩ := hw'
          go_simp
          try with_reducible rfl
        try simp only [Act.put, List.setIfInBounds_toArray, List.set_cons_zero, List.set_cons_succ]
        refine wpAnyH_ready (rs := [27]) (by kernel_rfl) (by simp) ?_
        refine AllReadyH.cons (o := { dst := some 48, op := Op.call { callee := Callee.value (Operand.func 12), args := #[Operand.tmp 47], argTypes := #[23] }, type := 3, pos := "law.go:35", after := #[{ on := 26, ground := Ground.data }, { on := 25, ground := Ground.chain }, { on := 25, ground := Ground.guard }], guard := some (25, false) }) rfl (fun K hK => ?_) AllReadyH.nil
        go_simp
        refine LE.out.mono ?_
        rintro e w8 ⟨rfl, rfl⟩
        refine hK.out _ _ hH3 (fun hH4 => ?_)
        clear hK
        try simp only [Act.put, List.setIfInBounds_toArray, List.set_cons_zero, List.set_cons_succ]
        refine wpAnyH_take (i := 33) (oi := { dst := some 54, op := Op.binOp BinOp.neq 3 (Operand.tmp 48) (Operand.tmp 53) 3, type := 4, pos := "law.go:35", after := #[{ on := 27, ground := Ground.data }, { on := 32, ground := Ground.data }, { on := 25, ground := Ground.guard }], guard := some (25, false) }) (v := ?_) rfl (by kernel_rfl) (by kernel_rfl) (by kernel_rfl) (fun _ _ _ h => h) (Or.inl ⟨by rfl, ?_⟩) hH4 ?_
        rotate_left
        · intro w' hw'
          obtain ⟨⟨s0, s1⟩, s2⟩ := hw'
          go_simp
          try with_reducible rfl
        try simp only [Act.put, List.setIfInBounds_toArray, List.set_cons_zero, List.set_cons_succ]
        refine wpAnyH_take (i := 34) (oi := { dst := some 55, op := Op.pick (Operand.tmp 46) (Operand.const (Value.bool true)) (Operand.tmp 54), type := 4, pos := "law.go:35", after := #[{ on := 25, ground := Ground.data }, { on := 33, ground := Ground.data }], guard := none }) (v := ?_) rfl (by kernel_rfl) (by kernel_rfl) (by kernel_rfl) (fun _ _ _ h => h) (Or.inl ⟨by rfl, ?_⟩) hH4 ?_
        rotate_left
        · intro w' hw'
          obtain ⟨⟨s0, s1⟩, s2⟩ := hw'
          go_simp
          try with_reducible rfl
        try simp only [Act.put, List.setIfInBounds_toArray, List.set_cons_zero, List.set_cons_succ]
        refine wpAnyH_done (by kernel_rfl) ?_ _
        refine NoPanic.normal ?_
        go_wp2_with fail
        go_roundw
        case rel => exact ⟨k + 1, v6, _, L7, by omega, by go_num, hL7', W7b, F7, W7d.out.symm, B7⟩
        case measure => simp [intOf]; omega
      · have GE := hide (fun (wx : World) (h : Wr wx w.heap.size p v (numB L) L.length) => (by obtain ⟨m, O, _⟩ := h; exact put_arg O (X : Int) C hC : Calls Try.prog 10 #[.pointer (some ⟨p, 0, none⟩), .int .u64 (X : Int), .int .i64 C] wx fun e w' => e = .returned (.int .i64 2) ∧ w' = wx))
        have RG := hide (fun (wx : World) => rput_arg (w := wx) (p := r) (X : Int) C hC)
        have WD : Hid (Wr wr.drew w.heap.size p v (numB L) L.length) := by obtain ⟨m, O, H⟩ := W.out; exact ⟨m, O.drew, H⟩
        have LE := hide (lenWr WD.out)
        have f1 := F.out.c0
        obtain ⟨au, cu, hu⟩ := F.out.slice
        rw [hu] at f1
        have FD := hide F.out.drew
        have BD := hide B.out.drew
        have hL2 : L.length ≤ 64 * (k + 1) := by omega
        clear hC W F B
        replace hu := hide hu
        obtain ⟨nl, enl⟩ : ∃ nl, L.length = nl := ⟨_, rfl⟩
        have hL2' := hL2
        have WD' := WD
        rw [enl] at f1 LE
        replace enl := hide enl
        clear hL2
        go_wp2_with fail
        go_region_held3 (fun w' => (w'.cell? ⟨b, off + k * 2, none⟩ = some (.int .u64 (X : Int)) ∧ w'.cell? ⟨b, off + k * 2 + 1, none⟩ = some (.int .i64 C)) ∧ w'.cell? ⟨r, 0, none⟩ = some (.slice au nl cu)) (first | (exact ⟨⟨c1, c2⟩, f1⟩)) (first
          | (go_at_call 10; refine (GE.out _ WD.out).mono ?_; rintro e w6 ⟨rfl, rfl⟩)
          | (go_at_call 11; refine (RG.out _).mono ?_; rintro e w6 ⟨rfl, rfl⟩)
          | (go_at_call 12; refine LE.out.mono ?_; rintro e w6 ⟨rfl, rfl⟩))
        go_wp2_with fail
        go_roundw
        case rel => exact ⟨k + 1, v, u, L, by omega, by go_num, hL2', WD', FD, D, BD⟩
        case measure => simp [intOf]; omega
    · obtain rfl : len = k := by omega
      obtain ⟨lx, Hx⟩ := W.out.holds
      replace Hx := hide Hx
      have BY := hide (bytesWr W.out (by omega) lx Hx.out)
      have RB := hide (fun (wx : World) (h : Below wr.heap.size wr wx) => rbytes_any (F.out.below h (Nat.le_refl _)) (by omega))
      go_wp2_with fail
      refine BY.out.mono ?_
      rintro e w4 ⟨a4, n4, c4, rfl, H4, B4, -⟩
      have b4 := hide (B.out.trans (B4.mono B.out.size))
      have RB4 := hide (RB.out _ B4)
      replace H4 := hide H4
      clear BY RB
      go_wp2_with fail
      refine RB4.out.mono ?_
      rintro e w5 ⟨ly, Hy, a5, n5, c5, rfl, H5, B5, -⟩
      have b5 := hide (b4.out.trans (B5.mono b4.out.size))
      have H4' := hide (H4.out.kept B5 (Nat.le_refl _))
      have hxy := hide (Hx.out.same Hy)
      replace H5 := hide H5
      clear RB4 B4 B5 Hy
      go_wp2_with fail
      refine (same_yes _ _ _ _ _ _ _ _ _ H4'.out H5.out hxy.out).mono ?_
      rintro e w6 ⟨rfl, rfl⟩
      go_wp2_with fail
      refine (works_any _).mono ?_
      rintro e w9 ⟨rfl, B9⟩
      go_wp2_with fail
      go_ret
      exact ⟨rfl, b5.out.trans (B9.mono b5.out.size)⟩

set_option maxHeartbeats 4000000 in
theorem walk_many (b off : Nat) (len cap : Nat) (ps : List (Nat × Int)) (w : World) (H : HasP w (some ⟨b, off, none⟩) len cap ps) (h1 : 100 < len) :
    Calls Try.prog 3 #[.slice (some ⟨b, off, none⟩) len cap] w fun e w' => e = .returned (.bool true) ∧ Below w.heap.size w w' := by
  have hle := H.le
  have hcb := H.capb
  unfold maxLen at hcb
  have hblt : Hid (b < w.heap.size) := by obtain ⟨b', off', e, h1, _⟩ := H.cells (by omega); cases e; exact h1
  replace H := hide H
  go_enter Try.func3, Try.ntmps3
  go_wp2_with fail
  refine (newWr _ w.heap.size (Nat.le_refl _)).mono ?_
  rintro e w1 ⟨p, rfl, B1, W1, -⟩
  replace W1 := hide W1
  go_wp2_with fail
  obtain ⟨w3, hw3⟩ : ∃ w3, w1.alloc (.cells #[.slice none 0 0] 28) = w3 := ⟨_, rfl⟩
  have F3 : Hid (RW w3 w.heap.size w1.heap.size (.slice none 0 0) []) := by rw [← hw3]; exact ⟨heap_alloc_new w1 _, B1.size, World.ownsRow_nil _ _ _ _, by simp [Value.ownBlock]⟩
  have W3 : Hid (Wr w3 w.heap.size p (.slice none 0 0) (numB []) (List.length ([] : List Bool))) := by rw [← hw3]; exact W1.out.below ((Below.refl _ _).alloc (Nat.le_refl _) _) (Nat.le_refl _)
  have D3 : Hid (Dis p (.slice none 0 0) w1.heap.size (.slice none 0 0)) := W1.out.dis (fun k hk => by
    rcases hk with rfl | hk
    · exact Nat.le_refl _
    · cases hk)
  have b3 : Hid (Below w.heap.size w w3) := by rw [← hw3]; exact B1.alloc B1.size _
  rw [hw3]
  clear hw3 W1 B1
  generalize w1.heap.size = r at *
  go_loopw [5] (fun i wr => ∃ (k : Nat) (v u : Value) (L : List Bool), k ≤ 100 ∧ i = .int .i64 (k : Int) ∧ L.length ≤ 64 * k ∧ Hid (Wr wr w.heap.size p v (numB L) L.length) ∧ Hid (RW wr w.heap.size r u L) ∧ Hid (Dis p v r u) ∧ Hid (Below w.heap.size w wr)) (fun i _ => 100 - (intOf i).toNat)
  case atStart => exact ⟨0, _, _, [], Nat.zero_le _, rfl, Nat.zero_le _, W3, F3, D3, b3⟩
  case round =>
    clear W3 F3 D3 b3
    obtain ⟨k, v, u, L, hk, rfl, hL, W, F, D, B⟩ := hrel
    by_cases hkl : k < 100
    · have hk1 : (k : Int) < (len : Int) := by omega
      have hk2 : (k : Int) < 100 := by omega
      have c1 := (H.out.look B.out k (by omega)).1
      have c2 := (H.out.look B.out k (by omega)).2
      have hx := H.out.x_lt k (by omega)
      generalize pX ps k = X at *
      generalize pC ps k = C at *
      by_cases hC : 0 ≤ C ∧ C ≤ 64
      · obtain ⟨N, rfl⟩ := Int.eq_ofNat_of_zero_le hC.1
        have hn : N ≤ 64 := by omega
        have PU := hide (putWr (w := wr.drew) (by obtain ⟨m, O, H⟩ := W.out; exact ⟨m, O.drew, H⟩ : Wr wr.drew w.heap.size p v (numB L) L.length) X N hx hn (by omega))
        clear hC
        go_wp2_with fail
        refine wp_region_noPanic ?_
        refine wp_region_held_drew (S := fun w' => w'.cell? ⟨b, off + k * 2, none⟩ = some (.int .u64 (X : Int)) ∧ w'.cell? ⟨b, off + k * 2 + 1, none⟩ = some (.int .i64 (N : Int))) (by kernel_rfl) ⟨c1, c2⟩ (fun hH0 => ?_)
        refine wpAnyH_take (i := 0) (oi := { dst := some 21, op := Op.move (Operand.tmp 3), type := 23, pos := "law.go:35", after := #[], guard := none }) (v := ?_) rfl (by kernel_rfl) (by kernel_rfl) (by kernel_rfl) (fun _ _ _ h => h) (Or.inl ⟨by rfl, ?_⟩) hH0 ?_
        rotate_left
        · intro w' hw'
          obtain ⟨s0, s1⟩ := hw'
          go_simp
          try with_reducible rfl
        try simp only [Act.put, List.setIfInBounds_toArray, List.set_cons_zero, List.set_cons_succ]
        refine wpAnyH_take (i := 1) (oi := { dst := some 22, op := Op.move (Operand.tmp 0), type := 22, pos := "law.go:35", after := #[], guard := none }) (v := ?_) rfl (by kernel_rfl) (by kernel_rfl) (by kernel_rfl) (fun _ _ _ h => h) (Or.inl ⟨by rfl, ?_⟩) hH0 ?_
        rotate_left
        · intro w' hw'
          obtain ⟨s0, s1⟩ := hw'
          go_simp
          try with_reducible rfl
        try simp only [Act.put, List.setIfInBounds_toArray, List.set_cons_zero, List.set_cons_succ]
        refine wpAnyH_take (i := 2) (oi := { dst := some 23, op := Op.move (Operand.tmp 5), type := 3, pos := "law.go:35", after := #[], guard := none }) (v := ?_) rfl (by kernel_rfl) (by kernel_rfl) (by kernel_rfl) (fun _ _ _ h => h) (Or.inl ⟨by rfl, ?_⟩) hH0 ?_
        rotate_left
        · intro w' hw'
          obtain ⟨s0, s1⟩ := hw'
          go_simp
          try with_reducible rfl
        try simp only [Act.put, List.setIfInBounds_toArray, List.set_cons_zero, List.set_cons_succ]
        refine wpAnyH_take (i := 3) (oi := { dst := some 24, op := Op.indexAddr 22 (Operand.tmp 22) (Operand.tmp 23), type := 0, pos := "law.go:35", after := #[{ on := 1, ground := Ground.data }, { on := 2, ground := Ground.data }], guard := none }) (v := ?_) rfl (by kernel_rfl) (by kernel_rfl) (by kernel_rfl) (fun _ _ _ h => h) (Or.inl ⟨by rfl, ?_⟩) hH0 ?_
        rotate_left
        · intro w' hw'
          obtain ⟨s0, s1⟩ := hw'
          go_simp
          try with_reducible rfl
        try simp only [Act.put, List.setIfInBounds_toArray, List.set_cons_zero, List.set_cons_succ]
        refine wpAnyH_take (i := 4) (oi := { dst := some 25, op := Op.fieldAddr 33 (Operand.tmp 24) 0, type := 0, pos := "law.go:35", after := #[{ on := 3, ground := Ground.data }], guard := none }) (v := ?_) rfl (by kernel_rfl) (by kernel_rfl) (by kernel_rfl) (fun _ _ _ h => h) (Or.inl ⟨by rfl, ?_⟩) hH0 ?_
        rotate_left
        · intro w' hw'
          obtain ⟨s0, s1⟩ := hw'
          go_simp
          try with_reducible rfl
        try simp only [Act.put, List.setIfInBounds_toArray, List.set_cons_zero, List.set_cons_succ]
        refine wpAnyH_take (i := 5) (oi := { dst := some 26, op := Op.load 31 (Operand.tmp 25), type := 31, pos := "law.go:35", after := #[{ on := 4, ground := Ground.data }], guard := none }) (v := ?_) rfl (by kernel_rfl) (by kernel_rfl) (by kernel_rfl) (fun _ _ _ h => h) (Or.inl ⟨by rfl, ?_⟩) hH0 ?_
        rotate_left
        · intro w' hw'
          obtain ⟨s0, s1⟩ := hw'
          go_simp
          try with_reducible rfl
        try simp only [Act.put, List.setIfInBounds_toArray, List.set_cons_zero, List.set_cons_succ]
        refine wpAnyH_take (i := 6) (oi := { dst := some 27, op := Op.move (Operand.tmp 0), type := 22, pos := "law.go:35", after := #[], guard := none }) (v := ?_) rfl (by kernel_rfl) (by kernel_rfl) (by kernel_rfl) (fun _ _ _ h => h) (Or.inl ⟨by rfl, ?_⟩) hH0 ?_
        rotate_left
        · intro w' hw'
          obtain ⟨s0, s1⟩ := hw'
          go_simp
          try with_reducible rfl
        try simp only [Act.put, List.setIfInBounds_toArray, List.set_cons_zero, List.set_cons_succ]
        refine wpAnyH_take (i := 7) (oi := { dst := some 28, op := Op.move (Operand.tmp 5), type := 3, pos := "law.go:35", after := #[], guard := none }) (v := ?_) rfl (by kernel_rfl) (by kernel_rfl) (by kernel_rfl) (fun _ _ _ h => h) (Or.inl ⟨by rfl, ?_⟩) hH0 ?_
        rotate_left
        · intro w' hw'
          obtain ⟨s0, s1⟩ := hw'
          go_simp
          try with_reducible rfl
        try simp only [Act.put, List.setIfInBounds_toArray, List.set_cons_zero, List.set_cons_succ]
        refine wpAnyH_take (i := 8) (oi := { dst := some 29, op := Op.indexAddr 22 (Operand.tmp 27) (Operand.tmp 28), type := 0, pos := "law.go:35", after := #[{ on := 6, ground := Ground.data }, { on := 7, ground := Ground.data }], guard := none }) (v := ?_) rfl (by kernel_rfl) (by kernel_rfl) (by kernel_rfl) (fun _ _ _ h => h) (Or.inl ⟨by rfl, ?_⟩) hH0 ?_
        rotate_left
        · intro w' hw'
          obtain ⟨s0, s1⟩ := hw'
          go_simp
          try with_reducible rfl
        try simp only [Act.put, List.setIfInBounds_toArray, List.set_cons_zero, List.set_cons_succ]
        refine wpAnyH_take (i := 9) (oi := { dst := some 30, op := Op.fieldAddr 33 (Operand.tmp 29) 1, type := 0, pos := "law.go:35", after := #[{ on := 8, ground := Ground.data }], guard := none }) (v := ?_) rfl (by kernel_rfl) (by kernel_rfl) (by kernel_rfl) (fun _ _ _ h => h) (Or.inl ⟨by rfl, ?_⟩) hH0 ?_
        rotate_left
        · intro w' hw'
          obtain ⟨s0, s1⟩ := hw'
          go_simp
          try with_reducible rfl
        try simp only [Act.put, List.setIfInBounds_toArray, List.set_cons_zero, List.set_cons_succ]
        refine wpAnyH_take (i := 10) (oi := { dst := some 31, op := Op.load 3 (Operand.tmp 30), type := 3, pos := "law.go:35", after := #[{ on := 9, ground := Ground.data }], guard := none }) (v := ?_) rfl (by kernel_rfl) (by kernel_rfl) (by kernel_rfl) (fun _ _ _ h => h) (Or.inl ⟨by rfl, ?_⟩) hH0 ?_
        rotate_left
        · intro w' hw'
          obtain ⟨s0, s1⟩ := hw'
          go_simp
          try with_reducible rfl
        try simp only [Act.put, List.setIfInBounds_toArray, List.set_cons_zero, List.set_cons_succ]
        refine wpAnyH_take (i := 12) (oi := { dst := some 33, op := Op.move (Operand.tmp 4), type := 25, pos := "law.go:35", after := #[], guard := none }) (v := ?_) rfl (by kernel_rfl) (by kernel_rfl) (by kernel_rfl) (fun _ _ _ h => h) (Or.inl ⟨by rfl, ?_⟩) hH0 ?_
        rotate_left
        · intro w' hw'
          obtain ⟨s0, s1⟩ := hw'
          go_simp
          try with_reducible rfl
        try simp only [Act.put, List.setIfInBounds_toArray, List.set_cons_zero, List.set_cons_succ]
        refine wpAnyH_take (i := 13) (oi := { dst := some 34, op := Op.move (Operand.tmp 0), type := 22, pos := "law.go:35", after := #[], guard := none }) (v := ?_) rfl (by kernel_rfl) (by kernel_rfl) (by kernel_rfl) (fun _ _ _ h => h) (Or.inl ⟨by rfl, ?_⟩) hH0 ?_
        rotate_left
        · intro w' hw'
          obtain ⟨s0, s1⟩ := hw'
          go_simp
          try with_reducible rfl
        try simp only [Act.put, List.setIfInBounds_toArray, List.set_cons_zero, List.set_cons_succ]
        refine wpAnyH_take (i := 14) (oi := { dst := some 35, op := Op.move (Operand.tmp 5), type := 3, pos := "law.go:35", after := #[], guard := none }) (v := ?_) rfl (by kernel_rfl) (by kernel_rfl) (by kernel_rfl) (fun _ _ _ h => h) (Or.inl ⟨by rfl, ?_⟩) hH0 ?_
        rotate_left
        · intro w' hw'
          obtain ⟨s0, s1⟩ := hw'
          go_simp
          try with_reducible rfl
        try simp only [Act.put, List.setIfInBounds_toArray, List.set_cons_zero, List.set_cons_succ]
        refine wpAnyH_take (i := 15) (oi := { dst := some 36, op := Op.indexAddr 22 (Operand.tmp 34) (Operand.tmp 35), type := 0, pos := "law.go:35", after := #[{ on := 13, ground := Ground.data }, { on := 14, ground := Ground.data }], guard := none }) (v := ?_) rfl (by kernel_rfl) (by kernel_rfl) (by kernel_rfl) (fun _ _ _ h => h) (Or.inl ⟨by rfl, ?_⟩) hH0 ?_
        rotate_left
        · intro w' hw'
          obtain ⟨s0, s1⟩ := hw'
          go_simp
          try with_reducible rfl
        try simp only [Act.put, List.setIfInBounds_toArray, List.set_cons_zero, List.set_cons_succ]
        refine wpAnyH_take (i := 16) (oi := { dst := some 37, op := Op.fieldAddr 33 (Operand.tmp 36) 0, type := 0, pos := "law.go:35", after := #[{ on := 15, ground := Ground.data }], guard := none }) (v := ?_) rfl (by kernel_rfl) (by kernel_rfl) (by kernel_rfl) (fun _ _ _ h => h) (Or.inl ⟨by rfl, ?_⟩) hH0 ?_
        rotate_left
        · intro w' hw'
          obtain ⟨s0, s1⟩ := hw'
          go_simp
          try with_reducible rfl
        try simp only [Act.put, List.setIfInBounds_toArray, List.set_cons_zero, List.set_cons_succ]
        refine wpAnyH_take (i := 17) (oi := { dst := some 38, op := Op.load 31 (Operand.tmp 37), type := 31, pos := "law.go:35", after := #[{ on := 16, ground := Ground.data }], guard := none }) (v := ?_) rfl (by kernel_rfl) (by kernel_rfl) (by kernel_rfl) (fun _ _ _ h => h) (Or.inl ⟨by rfl, ?_⟩) hH0 ?_
        rotate_left
        · intro w' hw'
          obtain ⟨s0, s1⟩ := hw'
          go_simp
          try with_reducible rfl
        try simp only [Act.put, List.setIfInBounds_toArray, List.set_cons_zero, List.set_cons_succ]
        refine wpAnyH_take (i := 18) (oi := { dst := some 39, op := Op.move (Operand.tmp 0), type := 22, pos := "law.go:35", after := #[], guard := none }) (v := ?_) rfl (by kernel_rfl) (by kernel_rfl) (by kernel_rfl) (fun _ _ _ h => h) (Or.inl ⟨by rfl, ?_⟩) hH0 ?_
        rotate_left
        · intro w' hw'
          obtain ⟨s0, s1⟩ := hw'
          go_simp
          try with_reducible rfl
        try simp only [Act.put, List.setIfInBounds_toArray, List.set_cons_zero, List.set_cons_succ]
        refine wpAnyH_take (i := 19) (oi := { dst := some 40, op := Op.move (Operand.tmp 5), type := 3, pos := "law.go:35", after := #[], guard := none }) (v := ?_) rfl (by kernel_rfl) (by kernel_rfl) (by kernel_rfl) (fun _ _ _ h => h) (Or.inl ⟨by rfl, ?_⟩) hH0 ?_
        rotate_left
        · intro w' hw'
          obtain ⟨s0, s1⟩ := hw'
          go_simp
          try with_reducible rfl
        try simp only [Act.put, List.setIfInBounds_toArray, List.set_cons_zero, List.set_cons_succ]
        refine wpAnyH_take (i := 20) (oi := { dst := some 41, op := Op.indexAddr 22 (Operand.tmp 39) (Operand.tmp 40), type := 0, pos := "law.go:35", after := #[{ on := 18, ground := Ground.data }, { on := 19, ground := Ground.data }], guard := none }) (v := ?_) rfl (by kernel_rfl) (by kernel_rfl) (by kernel_rfl) (fun _ _ _ h => h) (Or.inl ⟨by rfl, ?_⟩) hH0 ?_
        rotate_left
        · intro w' hw'
          obtain ⟨s0, s1⟩ := hw'
          go_simp
          try with_reducible rfl
        try simp only [Act.put, List.setIfInBounds_toArray, List.set_cons_zero, List.set_cons_succ]
        refine wpAnyH_take (i := 21) (oi := { dst := some 42, op := Op.fieldAddr 33 (Operand.tmp 41) 1, type := 0, pos := "law.go:35", after := #[{ on := 20, ground := Ground.data }], guard := none }) (v := ?_) rfl (by kernel_rfl) (by kernel_rfl) (by kernel_rfl) (fun _ _ _ h => h) (Or.inl ⟨by rfl, ?_⟩) hH0 ?_
        rotate_left
        · intro w' hw'
          obtain ⟨s0, s1⟩ := hw'
          go_simp
          try with_reducible rfl
        try simp only [Act.put, List.setIfInBounds_toArray, List.set_cons_zero, List.set_cons_succ]
        refine wpAnyH_take (i := 22) (oi := { dst := some 43, op := Op.load 3 (Operand.tmp 42), type := 3, pos := "law.go:35", after := #[{ on := 21, ground := Ground.data }], guard := none }) (v := ?_) rfl (by kernel_rfl) (by kernel_rfl) (by kernel_rfl) (fun _ _ _ h => h) (Or.inl ⟨by rfl, ?_⟩) hH0 ?_
        rotate_left
        · intro w' hw'
          obtain ⟨s0, s1⟩ := hw'
          go_simp
          try with_reducible rfl
        try simp only [Act.put, List.setIfInBounds_toArray, List.set_cons_zero, List.set_cons_succ]
        refine wpAnyH_ready (rs := [11]) (by kernel_rfl) (by simp) ?_
        refine AllReadyH.cons (o := { dst := some 32, op := Op.call { callee := Callee.value (Operand.func 10), args := #[Operand.tmp 21, Operand.tmp 26, Operand.tmp 31], argTypes := #[23, 31, 3] }, type := 29, pos := "law.go:35", after := #[{ on := 0, ground := Ground.data }, { on := 5, ground := Ground.data }, { on := 10, ground := Ground.data }], guard := none }) rfl (fun K hK => ?_) AllReadyH.nil
        go_simp
        refine PU.out.mono ?_
        rintro e w6 ⟨rfl, v6, W6, D6⟩
        have F6 := hide (D6.rw D.out F.out.drew)
        have c61 : w6.cell? ⟨b, off + k * 2, none⟩ = some (.int .u64 (X : Int)) := (D6.bel.cell (p := ⟨b, off + k * 2, none⟩) hblt.out).trans c1
        have c62 : w6.cell? ⟨b, off + k * 2 + 1, none⟩ = some (.int .i64 (N : Int)) := (D6.bel.cell (p := ⟨b, off + k * 2 + 1, none⟩) hblt.out).trans c2
        have B6 := hide (B.out.drew.trans D6.bel)
        replace W6 := hide W6
        clear D6 PU
        refine hK.out _ _ ⟨c61, c62⟩ (fun hH1 => ?_)
        clear hK
        try simp only [Act.put, List.setIfInBounds_toArray, List.set_cons_zero, List.set_cons_succ]
        refine wpAnyH_ready (rs := [23]) (by kernel_rfl) (by simp) ?_
        refine AllReadyH.cons (o := { dst := some 44, op := Op.call { callee := Callee.value (Operand.func 11), args := #[Operand.tmp 33, Operand.tmp 38, Operand.tmp 43], argTypes := #[25, 31, 3] }, type := 29, pos := "law.go:35", after := #[{ on := 12, ground := Ground.data }, { on := 17, ground := Ground.data }, { on := 22, ground := Ground.data }, { on := 11, ground := Ground.chain }], guard := none }) rfl (fun K hK => ?_) AllReadyH.nil
        go_simp
        refine (rput_ok F6.out.1 X N hx hn (by omega)).mono ?_
        rintro e w7 ⟨rfl, u7, L7, F7, n7, m7, B7', S7⟩
        have D7 : Did w6 w7 w.heap.size r u u7 := ⟨F6.out.1.bel B7', B7', S7⟩
        have W7 := hide (D7.wr F6.out.2.symm W6.out)
        have c71 : w7.cell? ⟨b, off + k * 2, none⟩ = some (.int .u64 (X : Int)) := (D7.bel.cell (p := ⟨b, off + k * 2, none⟩) hblt.out).trans c61
        have c72 : w7.cell? ⟨b, off + k * 2 + 1, none⟩ = some (.int .i64 (N : Int)) := (D7.bel.cell (p := ⟨b, off + k * 2 + 1, none⟩) hblt.out).trans c62
        have B7 := hide (B6.out.trans D7.bel)
        obtain ⟨a7, q7, hu7⟩ := F7.slice
        have f7 := F7.c0
        have W7a : Hid (Wr w7 w.heap.size p v6 (numB L7) L7.length) := by rw [n7, m7]; exact W7.out.1
        have W7d := hide W7.out.2
        have hL7 : L7.length ≤ 64 * (k + 1) := by omega
        replace F7 := hide F7
        have LE := hide (lenWr W7a.out)
        subst hu7
        clear D7 S7 B7' n7 m7 W7 F6 W6 B6
        obtain ⟨n7, e7⟩ : ∃ n7, L7.length = n7 := ⟨_, rfl⟩
        have W7b := W7a
        have hL7' := hL7
        rw [e7] at LE f7
        replace e7 := hide e7
        replace hL7' := hL7'
        clear W7a hL7
        refine hK.out _ _ ⟨c71, c72⟩ (fun hH2 => ?_)
        clear hK
        try simp only [Act.put, List.setIfInBounds_toArray, List.set_cons_zero, List.set_cons_succ]
        refine wpAnyH_take (i := 24) (oi := { dst := some 45, op := Op.binOp BinOp.neq 29 (Operand.tmp 32) (Operand.tmp 44) 29, type := 4, pos := "law.go:35", after := #[{ on := 11, ground := Ground.data }, { on := 23, ground := Ground.data }], guard := none }) (v := ?_) rfl (by kernel_rfl) (by kernel_rfl) (by kernel_rfl) (fun _ _ _ h => h) (Or.inl ⟨by rfl, ?_⟩) hH2 ?_
        rotate_left
        · intro w' hw'
          obtain ⟨s0, s1⟩ := hw'
          go_simp
          try with_reducible rfl
        try simp only [Act.put, List.setIfInBounds_toArray, List.set_cons_zero, List.set_cons_succ]
        refine wpAnyH_take (i := 25) (oi := { dst := some 46, op := Op.move (Operand.tmp 45), type := 4, pos := "law.go:35", after := #[{ on := 24, ground := Ground.data }, { on := 23, ground := Ground.chain }], guard := none }) (v := ?_) rfl (by kernel_rfl) (by kernel_rfl) (by kernel_rfl) (fun _ _ _ h => h) (Or.inl ⟨by rfl, ?_⟩) hH2 ?_
        rotate_left
        · intro w' hw'
          obtain ⟨s0, s1⟩ := hw'
          go_simp
          try with_reducible rfl
        try simp only [Act.put, List.setIfInBounds_toArray, List.set_cons_zero, List.set_cons_succ]
        refine wpAnyH_take (i := 26) (oi := { dst := some 47, op := Op.move (Operand.tmp 3), type := 23, pos := "law.go:35", after := #[{ on := 25, ground := Ground.guard }], guard := some (25, false) }) (v := ?_) rfl (by kernel_rfl) (by kernel_rfl) (by kernel_rfl) (fun _ _ _ h => h) (Or.inl ⟨by rfl, ?_⟩) hH2 ?_
        rotate_left
        · intro w' hw'
          obtain ⟨s0, s1⟩ := hw'
          go_simp
          try with_reducible rfl
        try simp only [Act.put, List.setIfInBounds_toArray, List.set_cons_zero, List.set_cons_succ]
        refine wpAnyH_take (i := 28) (oi := { dst := some 49, op := Op.move (Operand.tmp 4), type := 25, pos := "law.go:35", after := #[{ on := 25, ground := Ground.guard }], guard := some (25, false) }) (v := ?_) rfl (by kernel_rfl) (by kernel_rfl) (by kernel_rfl) (fun _ _ _ h => h) (Or.inl ⟨by rfl, ?_⟩) hH2 ?_
        rotate_left
        · intro w' hw'
          obtain ⟨s0, s1⟩ := hw'
          go_simp
          try with_reducible rfl
        try simp only [Act.put, List.setIfInBounds_toArray, List.set_cons_zero, List.set_cons_succ]
        refine wpAnyH_take (i := 29) (oi := { dst := some 50, op := Op.nilCheck (Operand.tmp 49), type := 0, pos := "law.go:35", after := #[{ on := 28, ground := Ground.data }, { on := 25, ground := Ground.guard }], guard := some (25, false) }) (v := ?_) rfl (by kernel_rfl) (by kernel_rfl) (by kernel_rfl) (fun _ _ _ h => h) (Or.inl ⟨by rfl, ?_⟩) hH2 ?_
        rotate_left
        · intro w' hw'
          obtain ⟨s0, s1⟩ := hw'
          go_simp
          try with_reducible rfl
        try simp only [Act.put, List.setIfInBounds_toArray, List.set_cons_zero, List.set_cons_succ]
        refine wpAnyH_take (i := 30) (oi := { dst := some 51, op := Op.fieldAddr 28 (Operand.tmp 50) 0, type := 0, pos := "law.go:35", after := #[{ on := 29, ground := Ground.data }, { on := 25, ground := Ground.guard }], guard := some (25, false) }) (v := ?_) rfl (by kernel_rfl) (by kernel_rfl) (by kernel_rfl) (fun _ _ _ h => h) (Or.inl ⟨by rfl, ?_⟩) hH2 ?_
        rotate_left
        · intro w' hw'
          obtain ⟨s0, s1⟩ := hw'
          go_simp
          try with_reducible rfl
        try simp only [Act.put, List.setIfInBounds_toArray, List.set_cons_zero, List.set_cons_succ]
        refine wpAnyH_more (S' := fun w' => (w'.cell? ⟨b, off + k * 2, none⟩ = some (.int .u64 (X : Int)) ∧ w'.cell? ⟨b, off + k * 2 + 1, none⟩ = some (.int .i64 (N : Int))) ∧ w'.cell? ⟨r, 0, none⟩ = some (.slice a7 n7 q7)) (fun _ h => h.1) _ _ _ _ ?_
        have hH3 : (w7.cell? ⟨b, off + k * 2, none⟩ = some (.int .u64 (X : Int)) ∧ w7.cell? ⟨b, off + k * 2 + 1, none⟩ = some (.int .i64 (N : Int))) ∧ w7.cell? ⟨r, 0, none⟩ = some (.slice a7 n7 q7) := ⟨hH2, f7⟩
        refine wpAnyH_take (i := 31) (oi := { dst := some 52, op := Op.load 26 (Operand.tmp 51), type := 26, pos := "law.go:35", after := #[{ on := 30, ground := Ground.data }, { on := 25, ground := Ground.guard }], guard := some (25, false) }) (v := ?_) rfl (by kernel_rfl) (by kernel_rfl) (by kernel_rfl) (fun _ _ _ h => h) (Or.inl ⟨by rfl, ?_⟩) hH3 ?_
        rotate_left
        · intro w' hw'
          obtain ⟨⟨s0, s1⟩, s2⟩ := hw'
          go_simp
          try with_reducible rfl
        try simp only [Act.put, List.setIfInBounds_toArray, List.set_cons_zero, List.set_cons_succ]
        refine wpAnyH_take (i := 32) (oi := { dst := some 53, op := Op.call { callee := Callee.builtin Builtin.len, args := #[Operand.tmp 52], argTypes := #[26] }, type := 3, pos := "law.go:35", after := #[{ on := 31, ground := Ground.data }, { on := 25, ground := Ground.guard }], guard := some (25, false) }) (v := ?_) rfl (by kernel_rfl) (by kernel_rfl) (by kernel_rfl) (fun _ _ _ h => h) (Or.inl ⟨by rfl, ?_⟩) hH3 ?_
        rotate_left
        · intro w' hw'
          obtain ⟨⟨s0, s1⟩, s2⟩ := hw'
          go_simp
          try with_reducible rfl
        try simp only [Act.put, List.setIfInBounds_toArray, List.set_cons_zero, List.set_cons_succ]
        refine wpAnyH_ready (rs := [27]) (by kernel_rfl) (by simp) ?_
        refine AllReadyH.cons (o := { dst := some 48, op := Op.call { callee := Callee.value (Operand.func 12), args := #[Operand.tmp 47], argTypes := #[23] }, type := 3, pos := "law.go:35", after := #[{ on := 26, ground := Ground.data }, { on := 25, ground := Ground.chain }, { on := 25, ground := Ground.guard }], guard := some (25, false) }) rfl (fun K hK => ?_) AllReadyH.nil
        go_simp
        refine LE.out.mono ?_
        rintro e w8 ⟨rfl, rfl⟩
        refine hK.out _ _ hH3 (fun hH4 => ?_)
        clear hK
        try simp only [Act.put, List.setIfInBounds_toArray, List.set_cons_zero, List.set_cons_succ]
        refine wpAnyH_take (i := 33) (oi := { dst := some 54, op := Op.binOp BinOp.neq 3 (Operand.tmp 48) (Operand.tmp 53) 3, type := 4, pos := "law.go:35", after := #[{ on := 27, ground := Ground.data }, { on := 32, ground := Ground.data }, { on := 25, ground := Ground.guard }], guard := some (25, false) }) (v := ?_) rfl (by kernel_rfl) (by kernel_rfl) (by kernel_rfl) (fun _ _ _ h => h) (Or.inl ⟨by rfl, ?_⟩) hH4 ?_
        rotate_left
        · intro w' hw'
          obtain ⟨⟨s0, s1⟩, s2⟩ := hw'
          go_simp
          try with_reducible rfl
        try simp only [Act.put, List.setIfInBounds_toArray, List.set_cons_zero, List.set_cons_succ]
        refine wpAnyH_take (i := 34) (oi := { dst := some 55, op := Op.pick (Operand.tmp 46) (Operand.const (Value.bool true)) (Operand.tmp 54), type := 4, pos := "law.go:35", after := #[{ on := 25, ground := Ground.data }, { on := 33, ground := Ground.data }], guard := none }) (v := ?_) rfl (by kernel_rfl) (by kernel_rfl) (by kernel_rfl) (fun _ _ _ h => h) (Or.inl ⟨by rfl, ?_⟩) hH4 ?_
        rotate_left
        · intro w' hw'
          obtain ⟨⟨s0, s1⟩, s2⟩ := hw'
          go_simp
          try with_reducible rfl
        try simp only [Act.put, List.setIfInBounds_toArray, List.set_cons_zero, List.set_cons_succ]
        refine wpAnyH_done (by kernel_rfl) ?_ _
        refine NoPanic.normal ?_
        go_wp2_with fail
        go_roundw
        case rel => exact ⟨k + 1, v6, _, L7, by omega, by go_num, hL7', W7b, F7, W7d.out.symm, B7⟩
        case measure => simp [intOf]; omega
      · have GE := hide (fun (wx : World) (h : Wr wx w.heap.size p v (numB L) L.length) => (by obtain ⟨m, O, _⟩ := h; exact put_arg O (X : Int) C hC : Calls Try.prog 10 #[.pointer (some ⟨p, 0, none⟩), .int .u64 (X : Int), .int .i64 C] wx fun e w' => e = .returned (.int .i64 2) ∧ w' = wx))
        have RG := hide (fun (wx : World) => rput_arg (w := wx) (p := r) (X : Int) C hC)
        have WD : Hid (Wr wr.drew w.heap.size p v (numB L) L.length) := by obtain ⟨m, O, H⟩ := W.out; exact ⟨m, O.drew, H⟩
        have LE := hide (lenWr WD.out)
        have f1 := F.out.c0
        obtain ⟨au, cu, hu⟩ := F.out.slice
        rw [hu] at f1
        have FD := hide F.out.drew
        have BD := hide B.out.drew
        have hL2 : L.length ≤ 64 * (k + 1) := by omega
        clear hC W F B
        replace hu := hide hu
        obtain ⟨nl, enl⟩ : ∃ nl, L.length = nl := ⟨_, rfl⟩
        have hL2' := hL2
        have WD' := WD
        rw [enl] at f1 LE
        replace enl := hide enl
        clear hL2
        go_wp2_with fail
        go_region_held3 (fun w' => (w'.cell? ⟨b, off + k * 2, none⟩ = some (.int .u64 (X : Int)) ∧ w'.cell? ⟨b, off + k * 2 + 1, none⟩ = some (.int .i64 C)) ∧ w'.cell? ⟨r, 0, none⟩ = some (.slice au nl cu)) (first | (exact ⟨⟨c1, c2⟩, f1⟩)) (first
          | (go_at_call 10; refine (GE.out _ WD.out).mono ?_; rintro e w6 ⟨rfl, rfl⟩)
          | (go_at_call 11; refine (RG.out _).mono ?_; rintro e w6 ⟨rfl, rfl⟩)
          | (go_at_call 12; refine LE.out.mono ?_; rintro e w6 ⟨rfl, rfl⟩))
        go_wp2_with fail
        go_roundw
        case rel => exact ⟨k + 1, v, u, L, by omega, by go_num, hL2', WD', FD, D, BD⟩
        case measure => simp [intOf]; omega
    · obtain rfl : 100 = k := by omega
      have hk1 : (100 : Int) < (len : Int) := by omega
      simp only [show ((100 : Nat) : Int) = 100 from rfl]
      obtain ⟨lx, Hx⟩ := W.out.holds
      replace Hx := hide Hx
      have BY := hide (bytesWr W.out (by omega) lx Hx.out)
      have RB := hide (fun (wx : World) (h : Below wr.heap.size wr wx) => rbytes_any (F.out.below h (Nat.le_refl _)) (by omega))
      go_wp2_with fail
      refine BY.out.mono ?_
      rintro e w4 ⟨a4, n4, c4, rfl, H4, B4, -⟩
      have b4 := hide (B.out.trans (B4.mono B.out.size))
      have RB4 := hide (RB.out _ B4)
      replace H4 := hide H4
      clear BY RB
      go_wp2_with fail
      refine RB4.out.mono ?_
      rintro e w5 ⟨ly, Hy, a5, n5, c5, rfl, H5, B5, -⟩
      have b5 := hide (b4.out.trans (B5.mono b4.out.size))
      have H4' := hide (H4.out.kept B5 (Nat.le_refl _))
      have hxy := hide (Hx.out.same Hy)
      replace H5 := hide H5
      clear RB4 B4 B5 Hy
      go_wp2_with fail
      refine (same_yes _ _ _ _ _ _ _ _ _ H4'.out H5.out hxy.out).mono ?_
      rintro e w6 ⟨rfl, rfl⟩
      go_wp2_with fail
      refine (works_any _).mono ?_
      rintro e w9 ⟨rfl, B9⟩
      go_wp2_with fail
      go_ret
      exact ⟨rfl, b5.out.trans (B9.mono b5.out.size)⟩

set_option maxHeartbeats 4000000 in
theorem walk_none (a0 : Option Addr) (len cap : Nat) (ps : List (Nat × Int)) (w : World) (H : HasP w (a0) len cap ps) (h1 : len = 0) :
    Calls Try.prog 3 #[.slice (a0) len cap] w fun e w' => e = .returned (.bool true) ∧ Below w.heap.size w w' := by
  have hle := H.le
  have hcb := H.capb
  unfold maxLen at hcb
  replace H := hide H
  go_enter Try.func3, Try.ntmps3
  go_wp2_with fail
  refine (newWr _ w.heap.size (Nat.le_refl _)).mono ?_
  rintro e w1 ⟨p, rfl, B1, W1, -⟩
  replace W1 := hide W1
  go_wp2_with fail
  obtain ⟨w3, hw3⟩ : ∃ w3, w1.alloc (.cells #[.slice none 0 0] 28) = w3 := ⟨_, rfl⟩
  have F3 : Hid (RW w3 w.heap.size w1.heap.size (.slice none 0 0) []) := by rw [← hw3]; exact ⟨heap_alloc_new w1 _, B1.size, World.ownsRow_nil _ _ _ _, by simp [Value.ownBlock]⟩
  have W3 : Hid (Wr w3 w.heap.size p (.slice none 0 0) (numB []) (List.length ([] : List Bool))) := by rw [← hw3]; exact W1.out.below ((Below.refl _ _).alloc (Nat.le_refl _) _) (Nat.le_refl _)
  have D3 : Hid (Dis p (.slice none 0 0) w1.heap.size (.slice none 0 0)) := W1.out.dis (fun k hk => by
    rcases hk with rfl | hk
    · exact Nat.le_refl _
    · cases hk)
  have b3 : Hid (Below w.heap.size w w3) := by rw [← hw3]; exact B1.alloc B1.size _
  rw [hw3]
  clear hw3 W1 B1
  generalize w1.heap.size = r at *
  go_loopw [5] (fun i wr => ∃ (k : Nat) (v u : Value) (L : List Bool), k ≤ 0 ∧ i = .int .i64 (k : Int) ∧ L.length ≤ 64 * k ∧ Hid (Wr wr w.heap.size p v (numB L) L.length) ∧ Hid (RW wr w.heap.size r u L) ∧ Hid (Dis p v r u) ∧ Hid (Below w.heap.size w wr)) (fun i _ => 0 - (intOf i).toNat)
  case atStart => exact ⟨0, _, _, [], Nat.zero_le _, rfl, Nat.zero_le _, W3, F3, D3, b3⟩
  case round =>
    clear W3 F3 D3 b3
    obtain ⟨k, v, u, L, hk, rfl, hL, W, F, D, B⟩ := hrel
    by_cases hkl : k < 0
    · omega
    · obtain rfl : 0 = k := by omega
      simp only [show ((0 : Nat) : Int) = 0 from rfl]
      obtain ⟨lx, Hx⟩ := W.out.holds
      replace Hx := hide Hx
      have BY := hide (bytesWr W.out (by omega) lx Hx.out)
      have RB := hide (fun (wx : World) (h : Below wr.heap.size wr wx) => rbytes_any (F.out.below h (Nat.le_refl _)) (by omega))
      go_wp2_with fail
      refine BY.out.mono ?_
      rintro e w4 ⟨a4, n4, c4, rfl, H4, B4, -⟩
      have b4 := hide (B.out.trans (B4.mono B.out.size))
      have RB4 := hide (RB.out _ B4)
      replace H4 := hide H4
      clear BY RB
      go_wp2_with fail
      refine RB4.out.mono ?_
      rintro e w5 ⟨ly, Hy, a5, n5, c5, rfl, H5, B5, -⟩
      have b5 := hide (b4.out.trans (B5.mono b4.out.size))
      have H4' := hide (H4.out.kept B5 (Nat.le_refl _))
      have hxy := hide (Hx.out.same Hy)
      replace H5 := hide H5
      clear RB4 B4 B5 Hy
      go_wp2_with fail
      refine (same_yes _ _ _ _ _ _ _ _ _ H4'.out H5.out hxy.out).mono ?_
      rintro e w6 ⟨rfl, rfl⟩
      go_wp2_with fail
      refine (works_any _).mono ?_
      rintro e w9 ⟨rfl, B9⟩
      go_wp2_with fail
      go_ret
      exact ⟨rfl, b5.out.trans (B9.mono b5.out.size)⟩

theorem walk (a0 : Option Addr) (len0 cap0 : Nat) (l0 : List (Nat × Int)) (w : World) (H : HasP w a0 len0 cap0 l0) :
    Calls Try.prog 3 #[.slice a0 len0 cap0] w fun e w' => e = .returned (.bool true) ∧ Below w.heap.size w w' := by
  by_cases h0 : len0 = 0
  · exact walk_none a0 len0 cap0 l0 w H h0
  · obtain ⟨b, off, rfl, _⟩ := H.cells (by omega)
    by_cases h1 : len0 ≤ 100
    · exact walk_few b off len0 cap0 l0 w H (by omega) h1
    · exact walk_many b off len0 cap0 l0 w H (by omega)


set_option maxRecDepth 100000 in
theorem lifted (os : Os) (started : os.Started) (H : Type) (enc : TypeId × Value → H) :
    ReturnsInHanded {} Try.checked os 3 .any (Rows.bitsWritesSpec.pre6 enc Try.prog Try.f3 Rows.bitsWritesRow.domain false) (Rows.bitsWritesSpec.post enc Try.prog Try.f3 false true false false) := by
  refine returnsInHanded_of_change (C := Try.checked) own started (by kernel_rfl) Try.func3
    (ChangeSpec.witness6 (enc := enc) (C := Try.checked) false ⟨#[], #[.slice none 0 0], []⟩ 8 (by kernel_rfl) (by kernel_rfl) (by kernel_rfl) (by kernel_rfl)) ?_
  intro W base args ds gs before hval0 hW hcnd _
  have hval : ∀ (j : Nat) t v, Try.f3.params[j]? = some t → args[j]? = some v → Value.okWide Try.prog W .any base t v := hval0
  have hW' := hW
  obtain ⟨p, q, hA0, hV, rfl, hfz, hnd⟩ := hW
  have hA : DataW.TrodAll enc Try.prog W 0 (fun _ => true) true Try.f3.params.toList args.toList ds p := hA0
  rw [Try.params3] at hA hval
  obtain ⟨v0, vs0, d0, ds0, p0, q0, hargs, rfl, rfl, h0, r0⟩ := trodAll_cons hA
  obtain ⟨rfl, rfl, rfl⟩ := trodAll_nil r0
  obtain rfl : args = #[v0] := by cases args; simp_all
  obtain ⟨rfl, rfl⟩ := trodVars_none hV
  obtain ⟨a0, len0, cap0, rfl⟩ := okWide_slice Try.underlying22 (hval 0 22 v0 rfl rfl)
  have k0 := h0
  have lt0 : ∀ x ∈ p0, x.block < W.heap.size := by obtain ⟨m, hm⟩ := k0; exact DataW.trod_lt m _ _ _ hm
  obtain ⟨l0, w0⟩ := came_parts h0
  clear hA0 hval0
  refine (walk a0 len0 cap0 l0 W w0).mono fun e W' ⟨he, bel⟩ => ?_
  subst he
  exact ⟨_, rfl, _, _, _, [], _, [], hW', trodAll_mk1 (shut_bool Try.underlying4 _), (trodAll_cons_mk (Below.trod laidOut (by kernel_rfl) (of_decide_eq_true (by kernel_rfl)) k0 bel lt0) trodAll_mk0), rfl, bel.frame _, fun h => by cases h⟩

theorem over : Rows.bitsWritesRow.holds Try.pinned (OpenSpec.ofChange Rows.bitsWritesSpec) :=
  OpenClaim.holds_of_wide 3 Try.f3 rfl rfl rfl rfl rfl rfl rfl ⟨rfl, rfl, rfl, rfl, rfl⟩ rfl rfl rfl rfl rfl (by kernel_rfl) Try.func3 (by kernel_rfl)
    (of_decide_eq_true (by kernel_rfl)) (by unfold Func.isWrapper; first | (rw [if_pos (by decide +kernel)]; kernel_rfl) | (rw [if_neg (by decide +kernel)]; exact ⟨rfl, rfl⟩))
    (fun os started H enc _ => lifted os started H enc)

/-- The statement. -/
theorem proved : Rows.BitsWritesSaid := over
#print axioms proved
end Go.Proofs.Ytgmhnfgpkoebiaa.bitsWrites
