/-
  works; the statement's low; what a writer, and a reader, that no call made does.
-/
import Derived.Test.YtmddkinecplooaaDoorE
import Derived.Test.YtmddkinecplooaaDoorF
namespace Go.Proofs.YtmddkinecplooaaDoor
open Go.RowKit
set_option linter.unusedVariables false

theorem same_yes (w : World) (a a' : Option Addr) (len len' cap cap' : Nat) (l l' : List Int) (h : Has w a len cap l) (h' : Has w a' len' cap' l') (e : l = l') :
    Calls Tryd.prog 15 #[.slice a len cap, .slice a' len' cap'] w fun e w' => e = .returned (.bool true) ∧ w' = w := by
  have := same_any w a a' len len' cap cap' l l' h h'
  rwa [show decide (l = l') = true by simpa using e] at this

theorem Oct.bel {w w' : World} {base p n : Nat} {t : TypeId} {v : Value} {l : List Int} (h : Oct w base p t v l n) (hb : But (fp p v) w w') : Below base w w' :=
  hb.below (by have := h.lt; have := h.ge; omega) (fun k hk => by
    rcases hk with rfl | hk
    · exact h.ge
    · exact (h.own.lt k hk).1)
theorem Oct.belR {w w' : World} {base p n : Nat} {t : TypeId} {v : Value} {l : List Int} (h : Oct w base p t v l n) (hb : But (fun k => k = p) w w') : Below base w w' :=
  hb.below (by have := h.lt; have := h.ge; omega) (fun k hk => by rw [hk]; exact h.ge)

/-- A writer that has the number A of n bits. -/
def Wri (w : World) (base p A n : Nat) : Prop := ∃ v l, Oct w base p 74 v l n ∧ Holds l A n

theorem newWri (w : World) (base : Nat) (hb : base ≤ w.heap.size) : Calls Tryd.prog 8 #[] w fun e w' => ∃ p, e = .returned (.pointer (some ⟨p, 0, none⟩)) ∧ Below w.heap.size w w' ∧ w.heap.size ≤ p ∧ Wri w' base p 0 0 := by
  refine (newWriter_any w).mono ?_
  rintro e w' ⟨p, he, B, O⟩
  exact ⟨p, he, B, O.ge, _, _, O.mono hb, holds_nil⟩
theorem putWri {w : World} {base p A n0 : Nat} (h : Wri w base p A n0) (x n : Nat) (hx : x < 18446744073709551616) (hn : n ≤ 64) (hroom : n0 + n ≤ 524288) :
    Calls Tryd.prog 10 #[.pointer (some ⟨p, 0, none⟩), .int .u64 (x : Int), .int .i64 (n : Int)] w fun e w' => e = .returned (.int .i64 0) ∧ Wri w' base p (A * 2 ^ n + x % 2 ^ n) (n0 + n) ∧ Below base w w' := by
  obtain ⟨v, l, O, H⟩ := h
  refine (put_ok O H x n hx hn hroom).mono ?_
  rintro e w' ⟨he, v', l', O', H', B', S'⟩
  exact ⟨he, ⟨v', l', O', H'⟩, O.bel B'⟩
theorem bytesWri {w : World} {base p A n : Nat} (h : Wri w base p A n) (hn : n ≤ 524288) (l : List Int) (hl : Holds l A n) : Calls Tryd.prog 16 #[.pointer (some ⟨p, 0, none⟩)] w (Ret w l) := by
  obtain ⟨v, m, O, H⟩ := h
  obtain rfl := H.same hl
  exact wbytes_any O H.bytes (by have := H.hi; omega)
theorem lenWri {w : World} {base p A n : Nat} (h : Wri w base p A n) : Calls Tryd.prog 18 #[.pointer (some ⟨p, 0, none⟩)] w fun e w' => e = .returned (.int .i64 (n : Int)) ∧ w' = w := by
  obtain ⟨v, m, O, H⟩ := h
  exact wlen_any O
theorem Wri.below {w w' : World} {base p A n B : Nat} (h : Wri w base p A n) (hb : Below B w w') (hB : w.heap.size ≤ B) : Wri w' base p A n := by
  obtain ⟨v, m, O, H⟩ := h
  exact ⟨v, m, O.below hb hB, H⟩
theorem Wri.lt {w : World} {base p A n : Nat} (h : Wri w base p A n) : base ≤ p ∧ p < w.heap.size := by
  obtain ⟨v, m, O, H⟩ := h
  exact ⟨O.ge, O.lt⟩
theorem Wri.mono {w : World} {base p A n b : Nat} (h : Wri w base p A n) (hb : b ≤ base) : Wri w b p A n := by
  obtain ⟨v, m, O, H⟩ := h
  exact ⟨v, m, O.mono hb, H⟩

theorem vu {a b : Int} (h : a = b) : Value.int .u64 a = .int .u64 b := by rw [h]

end Go.Proofs.YtmddkinecplooaaDoor
