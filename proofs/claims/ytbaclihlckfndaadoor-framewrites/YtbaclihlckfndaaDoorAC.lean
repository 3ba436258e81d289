/-
  The walks of the reference's Sector and First.
-/
import Derived.Test.YtbaclihlckfndaaDoorAB
namespace Go.Proofs.YtbaclihlckfndaaDoor
open Go.RowKit Go.Shelf
set_option linter.unusedVariables false

def hd7 (N n fl : Nat) : List Int := bytesN N 4 ++ (bytesN n 2 ++ [(fl : Int)])
theorem hd7_eq {N n fl : Nat} (hN : N < 4294967296) (hn : n < 65536) : hd7 N n fl = [(N : Int) % 256, (N : Int) / 256 % 256, (N : Int) / 65536 % 256, (N : Int) / 16777216, (n : Int) % 256, (n : Int) / 256, (fl : Int)] := by
  have h2 : bytesN n 2 = [(n : Int) % 256, (n : Int) / 256] := by
    have h : ∀ k, ((byteOf n k : Nat) : Int) = (n : Int) / 2 ^ (8 * k) % 256 := fun k => (byte_cast n k).symm
    rw [show bytesN n 2 = [((byteOf n 0 : Nat) : Int), ((byteOf n 1 : Nat) : Int)] from rfl]
    simp only [h]
    simp
    omega
  rw [hd7, bytes4_eq N hN, h2]
  rfl
theorem hd7_byts {N n fl : Nat} (hf : fl ≤ 255) : Byts (hd7 N n fl) := (byts_N _ _).app ((byts_N _ _).app (byts_one (by omega)))
theorem hd7_len {N n fl : Nat} : (hd7 N n fl).length = 7 := by simp [hd7, bytesN_len]
theorem sec_eq (N fl : Nat) (m : List Int) : sec N m fl = (hd7 N m.length fl ++ m ++ List.replicate (244 - m.length) 0) ++ bytesN (more 0 (hd7 N m.length fl ++ m ++ List.replicate (244 - m.length) 0)) 4 ++ [255] := by
  have e : bodyOf N m fl = hd7 N m.length fl ++ m ++ List.replicate (244 - m.length) 0 := by simp [bodyOf, hd7]
  rw [sec, e, List.append_assoc _ (bytesN _ 4) [255]]

set_option maxRecDepth 100000 in
set_option maxHeartbeats 2000000 in
theorem rsector_any (w : World) (N fl : Nat) (a : Option Addr) (len cap : Nat) (m : List Int) (h : Has w a len cap m) (hN : N < 4294967296) (hl : len ≤ 244) (hf : fl ≤ 3) :
    Calls Tryd.prog 27 #[.int .i64 (N : Int), .slice a len cap, .int .i64 (fl : Int)] w (Ret w (sec N m fl)) := by
  have i1 : (N : Int) < 4294967296 := by omega
  have i2 : (len : Int) ≤ 244 := by omega
  have i3 : (fl : Int) ≤ 3 := by omega
  have hml := h.hlen
  have hmb := hide h.bytes
  have O0 : Hid ((w.alloc (Obj.cells #[Value.int IntKind.u8 ((N : Int) % 256), Value.int IntKind.u8 ((N : Int) / 256 % 256), Value.int IntKind.u8 ((N : Int) / 65536 % 256), Value.int IntKind.u8 ((N : Int) / 16777216), Value.int IntKind.u8 ((len : Int) % 256), Value.int IntKind.u8 ((len : Int) / 256), Value.int IntKind.u8 (fl : Int)] 5)).ownsRow w.heap.size 5 1 (.slice (some ⟨w.heap.size, 0, none⟩) 7 7) 7 ((hd7 N len fl).map (Value.int .u8))) := by
    rw [hd7_eq hN (by omega)]
    exact ⟨rfl, .inr ⟨w.heap.size, 7, _, rfl, Nat.le_refl _, heap_alloc_new w _, Nat.le_refl _, by unfold maxLen; omega, rfl, rfl⟩⟩
  have B0 : Below w.heap.size w (w.alloc (Obj.cells #[Value.int IntKind.u8 ((N : Int) % 256), Value.int IntKind.u8 ((N : Int) / 256 % 256), Value.int IntKind.u8 ((N : Int) / 65536 % 256), Value.int IntKind.u8 ((N : Int) / 16777216), Value.int IntKind.u8 ((len : Int) % 256), Value.int IntKind.u8 ((len : Int) / 256), Value.int IntKind.u8 (fl : Int)] 5)) := (Below.refl _ _).alloc (Nat.le_refl _) _
  have H0 := hide (h.kept B0 (Nat.le_refl _))
  obtain ⟨z, hz⟩ : ∃ z, z = 244 - len := ⟨_, rfl⟩
  have ez : (251 : Int) - (7 + (len : Int)) = (z : Int) := by omega
  replace hz := hide hz
  replace hml := hide hml
  replace h := hide h
  replace B0 := hide B0
  go_enter Tryd.func27, Tryd.ntmps27
  go_wp2_with (first
    | (at_builtin; refine wpList_app rfl (.tmp 33) (.tmp 34) rfl w.heap.size _ 7 (hd7 N len fl) rfl O0.out a len cap m rfl H0.out (by omega) (by have := B0.out.size; exact this) ?_
       intro v1 w1 O1 G1
       have B1 := hide (B0.out.grown G1 B0.out.size (fun k hk => (O0.out.lt k hk).1))
       obtain ⟨a1, c1, e1⟩ := slice_of_owns O1
       subst e1
       replace O1 := hide O1
       clear G1)
    | (at_builtin; refine wpList_zeros rfl (.tmp 36) (.tmp 39) rfl w.heap.size _ (7 + len) _ rfl O1.out (by omega) z rfl (by have := hz.out; omega) B1.out.size ?_
       intro v2 w2 O2 G2
       have B2 := hide (B1.out.grown G2 B1.out.size (fun k hk => (O1.out.lt k hk).1))
       obtain ⟨a2, c2, e2⟩ := slice_of_owns O2
       subst e2
       have Hh := has_of_owns O2 (Byts.app (Byts.app (hd7_byts (by omega)) hmb.out) (byts_zeros _))
       replace O2 := hide O2
       clear G2)
    | (go_at_call 35
       obtain ⟨a2', c2', e2', Hh2⟩ := Hh
       cases e2'
       replace Hh2 := hide Hh2
       have hb2 := hide Hh2.out.bytes
       refine (rsum_any _ _ _ _ w2 Hh2.out).mono ?_
       rintro e w3 ⟨rfl, hw3⟩
       replace hw3 := hw3.symm
       subst hw3)
    | (go_at_call 34
       refine (rput_any w2 _ _ _ _ Hh2.out (by have := hz.out; omega) _ (more_lt (by decide) hb2.out)).mono ?_
       rintro e w4 ⟨a4, n4, c4, rfl, H4, B4, R4⟩
       have T4 := hide (B2.out.trans (B4.mono B2.out.size))
       have hn4 : n4 = 7 + len + z + 4 := by have h1 := H4.hlen; have h2 := Hh2.out.hlen; rw [List.length_append, bytesN_len, h2] at h1; exact h1.symm
       have hb4 := hide H4.bytes
       have H255 := has_one w4 255 (by decide)
       replace H255 := hide H255
       replace R4 := hide (ownsRow_mono R4 B2.out.size)
       have hn4b : n4 + 1 ≤ 4398046511104 := by have := hz.out; omega
       replace hn4 := hide hn4
       clear B4 H4)
    | (at_builtin; refine wpList_app rfl (.tmp 44) (.tmp 45) rfl w.heap.size _ n4 _ rfl (R4.out.alloc _) _ 1 1 [255] rfl H255.out hn4b (by have := T4.out.size; simp; omega) ?_
       intro v5 w5 O5 G5
       have T5 := hide ((T4.out.alloc T4.out.size _).grown G5 (by have := T4.out.size; simp; omega) (fun k hk => (R4.out.lt k hk).1))
       clear G5))
  go_ret
  have e : sec N m fl = (hd7 N len fl ++ m ++ List.replicate z 0) ++ bytesN (more 0 (hd7 N len fl ++ m ++ List.replicate z 0)) 4 ++ [255] := by rw [sec_eq, hml.out, ← hz.out]
  rw [e]
  exact ret_of_owns (n := n4 + 1) O5 (Byts.app hb4.out (byts_one (by decide))) T5.out
end Go.Proofs.YtbaclihlckfndaaDoor
