/-
  Writers and readers beside each other: what one does leaves the other as it was.
-/
import Derived.Test.YtmddkinecplooaaDoorI
namespace Go.Proofs.YtmddkinecplooaaDoor
open Go.RowKit
set_option linter.unusedVariables false

/-- A writer, whose bytes lie in v, that has the number A of n bits. -/
def Wr (w : World) (base p : Nat) (v : Value) (A n : Nat) : Prop := ∃ l, Oct w base p 74 v l n ∧ Holds l A n
/-- A reader of the bytes l at the place n. -/
def Rd (w : World) (base p : Nat) (v : Value) (l : List Int) (n : Nat) : Prop := Oct w base p 88 v l n ∧ (∀ x ∈ l, 0 ≤ x ∧ x ≤ 255) ∧ l.length ≤ 1099511627776 ∧ n ≤ 8 * l.length
/-- Nothing of the one is of the other. -/
def Dis (p : Nat) (v : Value) (p' : Nat) (v' : Value) : Prop := ∀ k, fp p v k → ¬ fp p' v' k
theorem Dis.symm {p p' : Nat} {v v' : Value} (h : Dis p v p' v') : Dis p' v' p v := fun k h1 h2 => h k h2 h1

theorem Oct.fplt {w : World} {base p n : Nat} {t : TypeId} {v : Value} {l : List Int} (h : Oct w base p t v l n) : ∀ k, fp p v k → base ≤ k ∧ k < w.heap.size := fun k hk => by
  rcases hk with rfl | hk
  · exact ⟨h.ge, h.lt⟩
  · exact h.own.lt k hk

theorem Wr.below {w w' : World} {base p A n B : Nat} {v : Value} (h : Wr w base p v A n) (hb : Below B w w') (hB : w.heap.size ≤ B) : Wr w' base p v A n := by
  obtain ⟨m, O, H⟩ := h
  exact ⟨m, O.below hb hB, H⟩
theorem Rd.below {w w' : World} {base p n B : Nat} {v : Value} {l : List Int} (h : Rd w base p v l n) (hb : Below B w w') (hB : w.heap.size ≤ B) : Rd w' base p v l n := ⟨h.1.below hb hB, h.2⟩
theorem Wr.drewN {w : World} {base p A n : Nat} {v : Value} (h : Wr w base p v A n) (k : Nat) : Wr (w.drewN k) base p v A n := by
  obtain ⟨m, O, H⟩ := h
  exact ⟨m, O.drewN k, H⟩
theorem Rd.drewN {w : World} {base p n : Nat} {v : Value} {l : List Int} (h : Rd w base p v l n) (k : Nat) : Rd (w.drewN k) base p v l n := ⟨h.1.drewN k, h.2⟩
theorem Wr.lt {w : World} {base p A n : Nat} {v : Value} (h : Wr w base p v A n) : base ≤ p ∧ p < w.heap.size := by
  obtain ⟨m, O, H⟩ := h
  exact ⟨O.ge, O.lt⟩

theorem newWr (w : World) (base : Nat) (hb : base ≤ w.heap.size) : Calls Tryd.prog 8 #[] w fun e w' => ∃ p, e = .returned (.pointer (some ⟨p, 0, none⟩)) ∧ Below w.heap.size w w' ∧ Wr w' base p (.slice none 0 0) 0 0 ∧ ∀ k, fp p (.slice none 0 0) k → w.heap.size ≤ k := by
  refine (newWriter_any w).mono ?_
  rintro e w' ⟨p, he, B, O⟩
  exact ⟨p, he, B, ⟨_, O.mono hb, holds_nil⟩, fun k hk => (O.fplt k hk).1⟩
theorem newRd (w : World) (base : Nat) (hb : base ≤ w.heap.size) (a : Option Addr) (len cap : Nat) (l : List Int) (h : Has w a len cap l) (hl : len ≤ 1099511627776) :
    Calls Tryd.prog 22 #[.slice a len cap] w fun e w' => ∃ p v, e = .returned (.pointer (some ⟨p, 0, none⟩)) ∧ Below w.heap.size w w' ∧ Rd w' base p v l 0 ∧ ∀ k, fp p v k → w.heap.size ≤ k := by
  refine (newReader_any w a len cap l h hl).mono ?_
  rintro e w' ⟨p, v, he, B, O⟩
  exact ⟨p, v, he, B, ⟨O.mono hb, h.bytes, by have := h.hlen; omega, by omega⟩, fun k hk => (O.fplt k hk).1⟩
/-- What is new is apart from what was there. -/
theorem dis_new {w : World} {base p p' n : Nat} {t : TypeId} {v v' : Value} {l : List Int} (h : Oct w base p t v l n) (hn : ∀ k, fp p' v' k → w.heap.size ≤ k) : Dis p v p' v' := fun k h1 h2 => by
  have := (h.fplt k h1).2
  have := hn k h2
  omega
theorem Wr.dis {w : World} {base p p' A n : Nat} {v v' : Value} (h : Wr w base p v A n) (hn : ∀ k, fp p' v' k → w.heap.size ≤ k) : Dis p v p' v' := by
  obtain ⟨m, O, H⟩ := h
  exact dis_new O hn
theorem Rd.dis {w : World} {base p p' n : Nat} {v v' : Value} {l : List Int} (h : Rd w base p v l n) (hn : ∀ k, fp p' v' k → w.heap.size ≤ k) : Dis p v p' v' := dis_new h.1 hn

/-- What a call did to one of them alone. -/
structure Did (w w' : World) (base p : Nat) (v v' : Value) : Prop where
  bel : Below base w w'
  but : But (fp p v) w w'
  own : ∀ i, i < w.heap.size → v'.ownBlock = some i → v.ownBlock = some i
theorem Did.oct {w w' : World} {base p p' n : Nat} {t : TypeId} {v v1 v' : Value} {l : List Int} {base' : Nat} (h : Did w w' base p v v1) (d : Dis p v p' v') (o : Oct w base' p' t v' l n) : Oct w' base' p' t v' l n ∧ Dis p v1 p' v' :=
  ⟨o.kept h.but d, fun k h1 h2 => by
    rcases h1 with rfl | h1
    · exact d k (.inl rfl) h2
    · exact d k (.inr (h.own k (o.fplt k h2).2 h1)) h2⟩
theorem Did.wr {w w' : World} {base base' p p' A n : Nat} {v v1 v' : Value} (h : Did w w' base p v v1) (d : Dis p v p' v') (o : Wr w base' p' v' A n) : Wr w' base' p' v' A n ∧ Dis p v1 p' v' := by
  obtain ⟨m, O, H⟩ := o
  have := h.oct d O
  exact ⟨⟨m, this.1, H⟩, this.2⟩
theorem Did.rd {w w' : World} {base base' p p' n : Nat} {v v1 v' : Value} {l : List Int} (h : Did w w' base p v v1) (d : Dis p v p' v') (o : Rd w base' p' v' l n) : Rd w' base' p' v' l n ∧ Dis p v1 p' v' := by
  have := h.oct d o.1
  exact ⟨⟨this.1, o.2⟩, this.2⟩

theorem putWr {w : World} {base p A n0 : Nat} {v : Value} (h : Wr w base p v A n0) (x n : Nat) (hx : x < 18446744073709551616) (hn : n ≤ 64) (hroom : n0 + n ≤ 524288) :
    Calls Tryd.prog 10 #[.pointer (some ⟨p, 0, none⟩), .int .u64 (x : Int), .int .i64 (n : Int)] w fun e w' => e = .returned (.int .i64 0) ∧ ∃ v', Wr w' base p v' (A * 2 ^ n + x % 2 ^ n) (n0 + n) ∧ Did w w' base p v v' := by
  obtain ⟨l, O, H⟩ := h
  refine (put_ok O H x n hx hn hroom).mono ?_
  rintro e w' ⟨he, v', l', O', H', B', S'⟩
  exact ⟨he, v', ⟨l', O', H'⟩, O.bel B', B', S'⟩
theorem getRd {w : World} {base p n0 : Nat} {v : Value} {l : List Int} (h : Rd w base p v l n0) (n : Nat) (hn : n ≤ 64) (hroom : n0 + n ≤ 8 * l.length) :
    Calls Tryd.prog 23 #[.pointer (some ⟨p, 0, none⟩), .int .i64 (n : Int)] w fun e w' => e = .returned (.tuple #[.int .u64 ((rd (num l) l.length n0 n : Nat) : Int), .int .i64 0]) ∧ Rd w' base p v l (n0 + n) ∧ Did w w' base p v v := by
  refine (get_ok h.1 h.2.1 h.2.2.1 n hn hroom).mono ?_
  rintro e w' ⟨he, O', B'⟩
  exact ⟨he, ⟨O', h.2.1, h.2.2.1, hroom⟩, h.1.belR B', B'.mono (fun k hk => .inl hk), fun i _ h => h⟩
theorem bytesWr {w : World} {base p A n : Nat} {v : Value} (h : Wr w base p v A n) (hn : n ≤ 524288) (l : List Int) (hl : Holds l A n) : Calls Tryd.prog 16 #[.pointer (some ⟨p, 0, none⟩)] w (Ret w l) := by
  obtain ⟨m, O, H⟩ := h
  obtain rfl := H.same hl
  exact wbytes_any O H.bytes (by have := H.hi; omega)
theorem Wr.holds {w : World} {base p A n : Nat} {v : Value} (h : Wr w base p v A n) : ∃ l, Holds l A n := by
  obtain ⟨m, O, H⟩ := h
  exact ⟨m, H⟩
theorem lenWr {w : World} {base p A n : Nat} {v : Value} (h : Wr w base p v A n) : Calls Tryd.prog 18 #[.pointer (some ⟨p, 0, none⟩)] w fun e w' => e = .returned (.int .i64 (n : Int)) ∧ w' = w := by
  obtain ⟨m, O, H⟩ := h
  exact wlen_any O
theorem atRd {w : World} {base p n : Nat} {v : Value} {l : List Int} (h : Rd w base p v l n) : Calls Tryd.prog 27 #[.pointer (some ⟨p, 0, none⟩)] w fun e w' => e = .returned (.int .i64 (n : Int)) ∧ w' = w := rat_any h.1
end Go.Proofs.YtmddkinecplooaaDoor
