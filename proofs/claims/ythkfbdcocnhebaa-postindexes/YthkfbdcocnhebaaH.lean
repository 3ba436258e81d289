/-
  And, Or, But, Add, Drop.
-/
import Derived.Test.YthkfbdcocnhebaaG
namespace Go.Proofs.Ythkfbdcocnhebaa
open Go.RowKit
set_option linter.unusedVariables false
set_option linter.unusedSimpArgs false

/-- How a call ends that hands out a rising list of the numbers M, if p, and refuses else. -/
def RetE (w : World) (p : Prop) (M : Int → Prop) (N : Nat) (e : Ending) (w' : World) : Prop :=
  ∃ r a n c er, e = .returned (.tuple #[.slice a n c, .int .i64 er]) ∧ HasU w' a n c r ∧ Below w.heap.size w w' ∧ (∀ k, (Value.slice a n c).ownBlock = some k → w.heap.size ≤ k) ∧ ((p ∧ er = 0 ∧ Up r ∧ (∀ x, x ∈ r ↔ M x) ∧ r.length ≤ N) ∨ (¬ p ∧ er = 2 ∧ r = []))
theorem RetE.out {w w' : World} {p : Prop} {M : Int → Prop} {N : Nat} {e : Ending} (h : RetE w p M N e w') (hp : p) : ∃ r a n c, e = .returned (.tuple #[.slice a n c, .int .i64 0]) ∧ HasU w' a n c r ∧ Below w.heap.size w w' ∧ Up r ∧ (∀ x, x ∈ r ↔ M x) ∧ r.length ≤ N := by
  obtain ⟨r, a, n, c, er, h1, h2, h3, h4, ⟨_, rfl, h5⟩ | ⟨h6, _⟩⟩ := h
  · exact ⟨r, a, n, c, h1, h2, h3, h5⟩
  · exact (h6 hp).elim
theorem RetE.iff {w w' : World} {p p' : Prop} {M M' : Int → Prop} {N N' : Nat} {e : Ending} (h : RetE w p M N e w') (hp : p ↔ p') (hM : p → ∀ x, M x ↔ M' x) (hN : N ≤ N') : RetE w p' M' N' e w' := by
  obtain ⟨r, a, n, c, er, h1, h2, h3, h4, ⟨q, rfl, u, m, l⟩ | ⟨h6, h7⟩⟩ := h
  · exact ⟨r, a, n, c, 0, h1, h2, h3, h4, .inl ⟨hp.1 q, rfl, u, fun x => (m x).trans (hM q x), Nat.le_trans l hN⟩⟩
  · exact ⟨r, a, n, c, er, h1, h2, h3, h4, .inr ⟨fun e => h6 (hp.2 e), h7⟩⟩
theorem mem_tot {ls : List (List Int)} {l : List Int} (h : l ∈ ls) : l.length ≤ tot ls := by
  induction ls with
  | nil => simp at h
  | cons a t ih =>
    have e : tot (a :: t) = a.length + tot t := by simp [tot]
    rcases List.mem_cons.1 h with rfl | h
    · omega
    · have := ih h; omega
set_option maxHeartbeats 1000000 in
theorem and_any (w : World) (a : Option Addr) (n c : Nat) (ls : List (List Int)) (H : HasLL w a n c ls) (hn : n ≤ 4096) (hT : tot ls ≤ 1000000000) : Calls Try.prog 8 #[.slice a n c] w (RetE w (UpL ls) (Tog 4 ls) (tot ls)) := by
  have MA := hide (many_any w a n c ls H hn (fun l hl => Nat.le_trans (mem_tot hl) hT))
  by_cases hu : UpL ls
  · rw [allE_ok hu] at MA
    have hu' := hide hu
    have hkp := hide (fun (w' : World) (hB : Below w.heap.size w w') => together_any 4 (.inl rfl) n n (Nat.le_refl _) w' a c ls (H.kept hB (Nat.le_refl _)) hu hT (by omega))
    clear H hu
    go_enter Try.func8, Try.ntmps8
    go_wp2_with fail
    refine MA.out.mono ?_
    rintro e w2 ⟨rfl, B2⟩
    have TG := hide (hkp.out w2 B2)
    replace B2 := hide B2
    go_wp2_with fail
    refine TG.out.mono ?_
    rintro e w3 ⟨r, u, m, l, a3, n3, c3, rfl, R3, B3, S3⟩
    have fin : Hid (RetE w (UpL ls) (Tog 4 ls) (tot ls) (.returned (.tuple #[.slice a3 n3 c3, .int .i64 0])) w3) := ⟨r, a3, n3, c3, 0, rfl, R3, B2.out.trans (B3.mono B2.out.size), fun k hk => by have := S3 k hk; have := B2.out.size; omega, .inl ⟨hu'.out, rfl, u, m, l⟩⟩
    clear R3 B3 S3 u m l
    go_wp2_with fail
    go_ret2
    exact fin.out
  · rw [allE_no hu] at MA
    have hu' := hide hu
    clear H hu
    go_enter Try.func8, Try.ntmps8
    go_wp2_with fail
    refine MA.out.mono ?_
    rintro e w2 ⟨rfl, B2⟩
    replace B2 := hide B2
    go_wp2_with fail
    go_ret2
    exact ⟨[], none, 0, 0, 2, rfl, hasU_nil _, B2.out, fun k hk => (by cases hk), .inr ⟨hu'.out, rfl, rfl⟩⟩
set_option maxHeartbeats 1000000 in
theorem or_any (w : World) (a : Option Addr) (n c : Nat) (ls : List (List Int)) (H : HasLL w a n c ls) (hn : n ≤ 4096) (hT : tot ls ≤ 1000000000) : Calls Try.prog 9 #[.slice a n c] w (RetE w (UpL ls) (Tog 7 ls) (tot ls)) := by
  have MA := hide (many_any w a n c ls H hn (fun l hl => Nat.le_trans (mem_tot hl) hT))
  by_cases hu : UpL ls
  · rw [allE_ok hu] at MA
    have hu' := hide hu
    have hkp := hide (fun (w' : World) (hB : Below w.heap.size w w') => together_any 7 (.inr rfl) n n (Nat.le_refl _) w' a c ls (H.kept hB (Nat.le_refl _)) hu hT (by omega))
    clear H hu
    go_enter Try.func9, Try.ntmps9
    go_wp2_with fail
    refine MA.out.mono ?_
    rintro e w2 ⟨rfl, B2⟩
    have TG := hide (hkp.out w2 B2)
    replace B2 := hide B2
    go_wp2_with fail
    refine TG.out.mono ?_
    rintro e w3 ⟨r, u, m, l, a3, n3, c3, rfl, R3, B3, S3⟩
    have fin : Hid (RetE w (UpL ls) (Tog 7 ls) (tot ls) (.returned (.tuple #[.slice a3 n3 c3, .int .i64 0])) w3) := ⟨r, a3, n3, c3, 0, rfl, R3, B2.out.trans (B3.mono B2.out.size), fun k hk => by have := S3 k hk; have := B2.out.size; omega, .inl ⟨hu'.out, rfl, u, m, l⟩⟩
    clear R3 B3 S3 u m l
    go_wp2_with fail
    go_ret2
    exact fin.out
  · rw [allE_no hu] at MA
    have hu' := hide hu
    clear H hu
    go_enter Try.func9, Try.ntmps9
    go_wp2_with fail
    refine MA.out.mono ?_
    rintro e w2 ⟨rfl, B2⟩
    replace B2 := hide B2
    go_wp2_with fail
    go_ret2
    exact ⟨[], none, 0, 0, 2, rfl, hasU_nil _, B2.out, fun k hk => (by cases hk), .inr ⟨hu'.out, rfl, rfl⟩⟩
/-- Two lists, in a row. -/
theorem hasLL_two {w : World} {a b : Option Addr} {na nb ca cb : Nat} {la lb : List Int} (Ha : HasU w a na ca la) (Hb : HasU w b nb cb lb) : HasLL (w.alloc (.cells #[.slice a na ca, .slice b nb cb] 23)) (some ⟨w.heap.size, 0, none⟩) 2 2 [la, lb] :=
  hasLL_new (vs := [.slice a na ca, .slice b nb cb]) rfl (by simp [maxLen]) (fun i hi => by
    rcases i with _ | _ | i
    · exact ⟨a, na, ca, rfl, Ha⟩
    · exact ⟨b, nb, cb, rfl, Hb⟩
    · simp at hi; omega)
theorem hasLL_three {w : World} {a b d : Option Addr} {na nb nd ca cb cd : Nat} {la lb ld : List Int} (Ha : HasU w a na ca la) (Hb : HasU w b nb cb lb) (Hd : HasU w d nd cd ld) : HasLL (w.alloc (.cells #[.slice a na ca, .slice b nb cb, .slice d nd cd] 23)) (some ⟨w.heap.size, 0, none⟩) 3 3 [la, lb, ld] :=
  hasLL_new (vs := [.slice a na ca, .slice b nb cb, .slice d nd cd]) rfl (by simp [maxLen]) (fun i hi => by
    rcases i with _ | _ | _ | i
    · exact ⟨a, na, ca, rfl, Ha⟩
    · exact ⟨b, nb, cb, rfl, Hb⟩
    · exact ⟨d, nd, cd, rfl, Hd⟩
    · simp at hi; omega)
theorem tot_two (a b : List Int) : tot [a, b] = a.length + b.length := by simp [tot]
theorem tot_three (a b c : List Int) : tot [a, b, c] = a.length + (b.length + c.length) := by simp [tot]
theorem upL_two {a b : List Int} : UpL [a, b] ↔ Up a ∧ Up b := ⟨fun h => ⟨h a (by simp), h b (by simp)⟩, fun h l hl => by simp at hl; rcases hl with rfl | rfl; exact h.1; exact h.2⟩
set_option maxHeartbeats 1000000 in
theorem but_any (w : World) (a b : Option Addr) (na nb ca cb : Nat) (la lb : List Int) (Ha : HasU w a na ca la) (Hb : HasU w b nb cb lb) (hna : na ≤ 1000000000) (hnb : nb ≤ 1000000000) : Calls Try.prog 17 #[.slice a na ca, .slice b nb cb] w (RetE w (Up la ∧ Up lb) (fun x => x ∈ la ∧ x ∉ lb) (la.length + lb.length)) := by
  have HL := hasLL_two Ha Hb
  have h1 := Ha.hlen
  have h2 := Hb.hlen
  have MA := hide (each_any _ _ 2 2 [la, lb] HL (by omega) (fun l hl => by simp at hl; rcases hl with rfl | rfl <;> omega))
  have B0 := hide ((Below.refl w.heap.size w).alloc (Nat.le_refl _) (.cells #[.slice a na ca, .slice b nb cb] 23))
  clear HL
  by_cases hu : Up la ∧ Up lb
  · rw [allE_ok (upL_two.2 hu)] at MA
    have hu' := hide hu
    have KA := hide (fun (w' : World) (hB : Below w.heap.size w w') => kept_any 1 (.inl rfl) w' a b na nb ca cb la lb (Ha.kept hB (Nat.le_refl _)) (Hb.kept hB (Nat.le_refl _)) hna hnb)
    clear Ha Hb hu h1 h2
    go_enter Try.func17, Try.ntmps17
    go_wp2_with fail
    refine MA.out.mono ?_
    rintro e w2 ⟨rfl, B2⟩
    have B3 : Below w.heap.size w w2 := B0.out.trans (B2.mono B0.out.size)
    have TG := hide (KA.out w2 B3)
    replace B3 := hide B3
    clear B2
    go_wp2_with fail
    refine TG.out.mono ?_
    rintro e w3 ⟨a3, n3, c3, rfl, R3, B4, S3⟩
    have fin : Hid (RetE w (Up la ∧ Up lb) (fun x => x ∈ la ∧ x ∉ lb) (la.length + lb.length) (.returned (.tuple #[.slice a3 n3 c3, .int .i64 0])) w3) := ⟨_, a3, n3, c3, 0, rfl, R3, B3.out.trans (B4.mono B3.out.size), fun k hk => by have := S3 k hk; have := B3.out.size; omega, .inl ⟨hu'.out, rfl, kp_up 1 hu'.out.1 hu'.out.2, mem_kp1 hu'.out.1 hu'.out.2, kp_len _ _ _⟩⟩
    clear R3 B4 S3
    go_wp2_with fail
    go_ret2
    exact fin.out
  · rw [allE_no (fun h => hu (upL_two.1 h))] at MA
    have hu' := hide hu
    clear Ha Hb hu h1 h2
    go_enter Try.func17, Try.ntmps17
    go_wp2_with fail
    refine MA.out.mono ?_
    rintro e w2 ⟨rfl, B2⟩
    have B3 : Hid (Below w.heap.size w w2) := B0.out.trans (B2.mono B0.out.size)
    clear B2
    go_wp2_with fail
    go_ret2
    exact ⟨[], none, 0, 0, 2, rfl, hasU_nil _, B3.out, fun k hk => (by cases hk), .inr ⟨hu'.out, rfl, rfl⟩⟩
theorem hasU_one (w : World) (n : Int) (hn : 0 ≤ n ∧ n < 18446744073709551616) : HasU (w.alloc (.cells #[.int .u64 n] 24)) (some ⟨w.heap.size, 0, none⟩) 1 1 [n] := hasU_lit w [n] (fun x hx => by rw [List.mem_singleton.1 hx]; exact hn) (by simp [maxLen])
theorem up_one (n : Int) : Up [n] := by simp [Up]
theorem Below.mono' {B B' : Nat} {w w' : World} (h : Below B' w w') (hB : B ≤ B') : Below B w w' := h.mono hB
set_option maxHeartbeats 1000000 in
theorem add_any (w : World) (a : Option Addr) (na ca : Nat) (la : List Int) (Ha : HasU w a na ca la) (hna : na ≤ 100000000) (n : Int) (hn : 0 ≤ n ∧ n < 18446744073709551616) : Calls Try.prog 19 #[.slice a na ca, .int .u64 n] w (RetE w (Up la) (fun x => x ∈ la ∨ x = n) (la.length + 1)) := by
  have B1 : Below w.heap.size w (w.alloc (.cells #[.int .u64 n] 24)) := (Below.refl _ w).alloc (Nat.le_refl _) _
  have HL := hasLL_two (Ha.kept B1 (Nat.le_refl _)) (hasU_one w n hn)
  rw [show (w.alloc (.cells #[.int .u64 n] 24)).heap.size = w.heap.size + 1 by simp] at HL
  have B2 : Hid (Below w.heap.size w ((w.alloc (.cells #[.int .u64 n] 24)).alloc (.cells #[.slice a na ca, .slice (some ⟨w.heap.size, 0, none⟩) 1 1] 23))) := B1.alloc (by simp) _
  have h1 := Ha.hlen
  have OA := hide (or_any _ _ 2 2 [la, [n]] HL (by omega) (by rw [tot_two]; simp; omega))
  clear HL B1 Ha
  go_enter Try.func19, Try.ntmps19
  go_wp2_with fail
  refine OA.out.mono ?_
  intro e w3 R
  have R2 : RetE w (Up la) (fun x => x ∈ la ∨ x = n) (la.length + 1) e w3 := by
    have h := RetE.iff (p' := Up la) (M' := fun x => x ∈ la ∨ x = n) (N' := la.length + 1) R (upL_two.trans ⟨fun h => h.1, fun h => ⟨h, up_one n⟩⟩) (fun _ x => by simp [Tog]) (by rw [tot_two]; simp)
    obtain ⟨r, a3, n3, c3, er, q1, q2, q3, q4, q5⟩ := h
    exact ⟨r, a3, n3, c3, er, q1, q2, B2.out.trans (q3.mono B2.out.size), fun k hk => by have := q4 k hk; have := B2.out.size; omega, q5⟩
  clear R
  obtain ⟨r, a3, n3, c3, er, rfl, q⟩ := R2
  replace q := hide q
  go_wp2_with fail
  go_ret2
  exact ⟨r, a3, n3, c3, er, rfl, q.out⟩
set_option maxHeartbeats 1000000 in
theorem drop_any (w : World) (a : Option Addr) (na ca : Nat) (la : List Int) (Ha : HasU w a na ca la) (hna : na ≤ 100000000) (n : Int) (hn : 0 ≤ n ∧ n < 18446744073709551616) : Calls Try.prog 21 #[.slice a na ca, .int .u64 n] w (RetE w (Up la) (fun x => x ∈ la ∧ x ≠ n) (la.length + 1)) := by
  have B1 : Below w.heap.size w (w.alloc (.cells #[.int .u64 n] 24)) := (Below.refl _ w).alloc (Nat.le_refl _) _
  have h1 := Ha.hlen
  have OA := hide (but_any _ a _ na 1 ca 1 la [n] (Ha.kept B1 (Nat.le_refl _)) (hasU_one w n hn) (by omega) (by omega))
  replace B1 := hide B1
  clear Ha
  go_enter Try.func21, Try.ntmps21
  go_wp2_with fail
  refine OA.out.mono ?_
  intro e w3 R
  have R2 : RetE w (Up la) (fun x => x ∈ la ∧ x ≠ n) (la.length + 1) e w3 := by
    have h := RetE.iff (p' := Up la) (M' := fun x => x ∈ la ∧ x ≠ n) (N' := la.length + 1) R ⟨fun h => h.1, fun h => ⟨h, up_one n⟩⟩ (fun _ x => by simp) (by simp)
    obtain ⟨r, a3, n3, c3, er, q1, q2, q3, q4, q5⟩ := h
    exact ⟨r, a3, n3, c3, er, q1, q2, B1.out.trans (q3.mono B1.out.size), fun k hk => by have := q4 k hk; have := B1.out.size; omega, q5⟩
  clear R
  obtain ⟨r, a3, n3, c3, er, rfl, q⟩ := R2
  replace q := hide q
  go_wp2_with fail
  go_ret2
  exact ⟨r, a3, n3, c3, er, rfl, q.out⟩
end Go.Proofs.Ythkfbdcocnhebaa
