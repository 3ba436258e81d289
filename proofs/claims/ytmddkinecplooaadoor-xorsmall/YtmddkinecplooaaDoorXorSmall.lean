/-
  Proved: XorSmall answers true for all inputs, with the package listed variable as the program own text lays it (the tied card). No other condition.
-/
import Derived.Test.YtmddkinecplooaaDoorRows
import Derived.Test.YtmddkinecplooaaDoorTie
import Derived.Test.YtmddkinecplooaaDoorCards
import Derived.Test.YtmddkinecplooaaDoorI
import Derived.Test.YtmddkinecplooaaDoorXJ
import Derived.ShutString
import Derived.ChangeOld
import Derived.Below
import Derived.SevenTiedAt
namespace Go.Proofs.YtmddkinecplooaaDoor.xorSmall
open Go.ChangeShapes Go.WideShapes Go.ChangeAt Go.RowKit
open Go.ChangeMaps (open_string shut_string)
set_option linter.unusedVariables false

set_option maxRecDepth 100000 in
set_option maxHeartbeats 4000000 in
theorem walk (a0 : Option Addr) (len0 cap0 : Nat) (l0 : List Int) (a1 : Option Addr) (len1 cap1 : Nat) (B1 : Nat → Bool) (w : World) (ht : Tab w) (H0 : HasU w a0 len0 cap0 l0) (H1 : HasO w a1 len1 cap1 B1) :
    Calls Tryd.prog 7 #[.slice a0 len0 cap0, .slice a1 len1 cap1] w fun e w' => e = .returned (.bool true) ∧ Below w.heap.size w w' := by
  have hz := zero24
  have K := hide (works_any w ht)
  have hpos := hide ht.pos
  have hlb : (len0 : Int) ≤ 9223372036854775807 := by have := H0.capb; have := H0.le; unfold maxLen at *; omega
  have hlb1 : (len1 : Int) ≤ 9223372036854775807 := by have := H1.capb; have := H1.le; unfold maxLen at *; omega
  replace ht := hide ht
  replace H0 := hide H0
  replace H1 := hide H1
  go_enter Tryd.func7, Tryd.ntmps7
  go_wp2_with fail
  refine K.out.mono ?_
  rintro e w1 ⟨rfl, b1⟩
  replace b1 := hide b1
  have N := hide (newWr w1 w.heap.size b1.out.size)
  clear K
  go_wp2_with fail
  refine N.out.mono ?_
  rintro e wb ⟨p, rfl, bb, Wb, -⟩
  have Eb := hide (WS.start Wb ((ht.out.below b1.out).below bb) hpos.out)
  have bb' := hide (b1.out.trans (bb.mono b1.out.size))
  clear N Wb bb b1
  go_wp2_with fail
  refine (begin_any _).mono ?_
  rintro e w2 ⟨rfl, b2⟩
  have Ec := Eb.out.below b2
  have b2' := hide (bb'.out.trans (b2.mono bb'.out.size))
  have E2 := hide ((WS.start Ec.wr Ec.t Ec.b0).alloc (.cells #[.int .i64 0, .int .u64 0, .int .i64 64, .int .i64 0] 24))
  have S2 := hide (Kx.new Ec.wr 24 #[.int .i64 0, .int .u64 0, .int .i64 64, .int .i64 0])
  clear Ec Eb bb' b2
  go_wp2_with fail
  go_loopw [7] (fun iv wr => ∃ (i n0 A L a b : Nat) (v : Value), i ≤ 60 ∧ iv = .int .i64 (i : Int) ∧ n0 ≤ 78 * i ∧ Hid (OkS i a b) ∧ Hid (L < 18446744073709551616) ∧ Hid (WS w2 wr w.heap.size p (.slice none 0 0) v A n0) ∧ Hid (Kx wr p v w2.heap.size 24 #[.int .i64 (i : Int), .int .u64 (L : Int), .int .i64 (a : Int), .int .i64 (b : Int)])) (fun iv _ => 60 - (intOf iv).toNat)
  case atStart => exact ⟨0, 0, 0, 0, 64, 0, _, by decide, rfl, by decide, ⟨by decide, .inl ⟨rfl, rfl⟩⟩, by show _ < _; decide, E2, S2⟩
  case round =>
    clear E2 S2
    obtain ⟨i, n0, A, L, a, b, v, hi, rfl, hn0, hok, hL, E, S⟩ := hrel
    by_cases hlt : i < len0 ∧ i < 60
    · obtain ⟨hlt1, hlt2⟩ := hlt
      have j1 : (i : Int) < (len0 : Int) := by omega
      have j2 : (i : Int) < 60 := by omega
      have Bw := b2'.out.trans E.out.d.bel
      obtain ⟨bk, off, ea0, -, hcell⟩ := (H0.out.kept Bw (Nat.le_refl _)).cells (by omega)
      have hc := hcell i hlt1
      have hmem : l0.getD i 0 ∈ l0 := by
        have hl := H0.out.hlen
        simp [List.getD, List.getElem?_eq_getElem (show i < l0.length by omega)]
      have hr := H0.out.range _ hmem
      obtain ⟨V, hVe⟩ : ∃ V : Nat, l0.getD i 0 = (V : Int) := ⟨(l0.getD i 0).toNat, by omega⟩
      have hV := hide (show V < 18446744073709551616 by omega)
      rw [hVe] at hc
      have hB1 := hide (H1.out.kept Bw (Nat.le_refl _))
      clear hcell hmem hr hVe Bw
      subst ea0
      by_cases h0 : i = 0
      · have z0 : ¬ (0 : Int) < (i : Int) := by omega
        replace h0 := hide h0
        have LN := hide (lenWr E.out.wr)
        obtain ⟨a', ea⟩ : ∃ a', cA i L a b V = a' := ⟨_, rfl⟩
        obtain ⟨b', eb⟩ : ∃ b', cB i L a b V = b' := ⟨_, rfl⟩
        obtain ⟨Y, eY⟩ : ∃ Y, cN i L a b V = Y := ⟨_, rfl⟩
        have P := hide (putXi (n := i) (L := L) (a := a) (b := b) (V := V) (ni' := (i : Int) + 1) E.out.wr E.out.t hpos.out hok.out hL.out hV.out (by omega) rfl rfl rfl rfl rfl (by omega) ea rfl eb rfl eY rfl)
        have hok' := hide (ok_next (L := L) (v := V) hok.out hL.out hV.out (by omega))
        rw [ea, eb] at hok'
        have hY78 := cN_le (L := L) (v := V) hok.out hL.out hV.out
        have hY1 := cN_pos i L a b V
        rw [eY] at hY78 hY1
        obtain ⟨n1, en1⟩ : ∃ n1, n0 + Y = n1 := ⟨_, rfl⟩
        rw [en1] at P
        have hsub : (n1 : Int) - (n0 : Int) = (Y : Int) := by omega
        have k1 := hide (show i + 1 ≤ 60 by omega)
        have k2 := hide (show n1 ≤ 78 * (i + 1) by omega)
        have hV' := hV
        have i1 : (n1 : Int) ≤ 4680 := by omega
        have i2 : (n0 : Int) ≤ 4680 := by omega
        have i3 : (i : Int) ≤ 59 := by omega
        have s0 := S.out.bx.st4.c0
        have s1 := S.out.bx.st4.c1
        have s2 := S.out.bx.st4.c2
        have s3 := S.out.bx.st4.c3
        have g1 : ¬ (Y : Int) < 1 := by omega
        have g2 : ¬ (78 : Int) < (Y : Int) := by omega
        replace en1 := hide en1
        replace eY := hide eY
        replace ea := hide ea
        replace eb := hide eb
        replace hY78 := hide hY78
        replace hY1 := hide hY1
        replace hn0 := hide hn0
        go_wp2_with fail
        refine LN.out.mono ?_
        rintro e wq ⟨rfl, rfl⟩
        go_wp2_with fail
        refine P.out.mono ?_
        rintro e w3 ⟨rfl, v3, W3, D3⟩
        have E3' := E.out.put D3 W3
        have S3' := S.out.did D3
        have X3 := hide (Kx.new E3'.wr 24 #[.int .i64 ((i : Int) + 1), .int .u64 (V : Int), .int .i64 (a' : Int), .int .i64 (b' : Int)])
        have hne : Hid (w3.heap.size ≠ w2.heap.size) := by have := S3'.bx.lt; show _ ≠ _; omega
        have E3 := hide (E3'.alloc (.cells #[.int .i64 ((i : Int) + 1), .int .u64 (V : Int), .int .i64 (a' : Int), .int .i64 (b' : Int)] 24))
        have S3 := hide (S3'.alloc (.cells #[.int .i64 ((i : Int) + 1), .int .u64 (V : Int), .int .i64 (a' : Int), .int .i64 (b' : Int)] 24))
        clear E3' S3' W3 D3 P LN s0 s1 s2 s3
        have L3 := hide (lenWr E3.out.wr)
        have bt := but_set4 (w3.alloc (.cells #[.int .i64 ((i : Int) + 1), .int .u64 (V : Int), .int .i64 (a' : Int), .int .i64 (b' : Int)] 24)) w2.heap.size (.int .i64 ((i : Int) + 1)) (.int .u64 (V : Int)) (.int .i64 (a' : Int)) (.int .i64 (b' : Int))
        have E4 := hide (E3.out.but bt (Nat.le_refl _) S3.out.nf)
        have S4 : Hid (Kx _ p v3 w2.heap.size 24 #[.int .i64 ((i : Int) + 1), .int .u64 (V : Int), .int .i64 (a' : Int), .int .i64 (b' : Int)]) := ⟨S3.out.bx.set4 (.int .i64 ((i : Int) + 1)) (.int .u64 (V : Int)) (.int .i64 (a' : Int)) (.int .i64 (b' : Int)), S3.out.nf⟩
        obtain ⟨q0, q1, q2, q3, q4, q5, q6, q7, q8, q9, q10⟩ := S3.out.bx.st4
        have x0 := X3.out.bx.st4.c0
        have x1 := X3.out.bx.st4.c1
        have x2 := X3.out.bx.st4.c2
        have x3 := X3.out.bx.st4.c3
        clear bt
        go_wp2_with fail
        refine L3.out.mono ?_
        rintro e wq ⟨rfl, rfl⟩
        go_wp2_with fail
        go_roundw
        case rel => exact ⟨i + 1, n1, _, V, a', b', v3, k1.out, by go_num, k2.out, hok'.out, hV'.out, E4, S4⟩
        case measure => simp [intOf]; omega
      · have z0 : (0 : Int) < (i : Int) := by omega
        by_cases h1 : i < len1
        · have z1 : (i : Int) < (len1 : Int) := by omega
          obtain ⟨bk1, off1, ea1, -, hcell1⟩ := hB1.out.cells (by omega)
          have hc1 := hcell1 i h1
          subst ea1
          clear hcell1 hB1
          cases hb1 : B1 i <;> rw [hb1] at hc1
          · clear hb1
            have LN := hide (lenWr E.out.wr)
            obtain ⟨a', ea⟩ : ∃ a', cA i L a b V = a' := ⟨_, rfl⟩
            obtain ⟨b', eb⟩ : ∃ b', cB i L a b V = b' := ⟨_, rfl⟩
            obtain ⟨Y, eY⟩ : ∃ Y, cN i L a b V = Y := ⟨_, rfl⟩
            have P := hide (putXi (n := i) (L := L) (a := a) (b := b) (V := V) (ni' := (i : Int) + 1) E.out.wr E.out.t hpos.out hok.out hL.out hV.out (by omega) rfl rfl rfl rfl rfl (by omega) ea rfl eb rfl eY rfl)
            have hok' := hide (ok_next (L := L) (v := V) hok.out hL.out hV.out (by omega))
            rw [ea, eb] at hok'
            have hY78 := cN_le (L := L) (v := V) hok.out hL.out hV.out
            have hY1 := cN_pos i L a b V
            rw [eY] at hY78 hY1
            obtain ⟨n1, en1⟩ : ∃ n1, n0 + Y = n1 := ⟨_, rfl⟩
            rw [en1] at P
            have hsub : (n1 : Int) - (n0 : Int) = (Y : Int) := by omega
            have k1 := hide (show i + 1 ≤ 60 by omega)
            have k2 := hide (show n1 ≤ 78 * (i + 1) by omega)
            have hV' := hV
            have i1 : (n1 : Int) ≤ 4680 := by omega
            have i2 : (n0 : Int) ≤ 4680 := by omega
            have i3 : (i : Int) ≤ 59 := by omega
            have s0 := S.out.bx.st4.c0
            have s1 := S.out.bx.st4.c1
            have s2 := S.out.bx.st4.c2
            have s3 := S.out.bx.st4.c3
            have g1 : ¬ (Y : Int) < 1 := by omega
            have g2 : ¬ (78 : Int) < (Y : Int) := by omega
            by_cases hone : Y = 1
            · have hVL : V = L := xor_same (dN_one (a := a) (b := b) (by have := eY; unfold cN at this; rw [if_neg h0] at this; omega))
              subst hVL
              have g3 : (Y : Int) = 1 := by omega
              subst hone
              simp only [show ((1 : Nat) : Int) = 1 from rfl] at *
              replace en1 := hide en1
              replace eY := hide eY
              replace ea := hide ea
              replace eb := hide eb
              replace hY78 := hide hY78
              replace hY1 := hide hY1
              replace hn0 := hide hn0
              go_wp2_with fail
              refine LN.out.mono ?_
              rintro e wq ⟨rfl, rfl⟩
              go_wp2_with fail
              refine P.out.mono ?_
              rintro e w3 ⟨rfl, v3, W3, D3⟩
              have E3' := E.out.put D3 W3
              have S3' := S.out.did D3
              have X3 := hide (Kx.new E3'.wr 24 #[.int .i64 ((i : Int) + 1), .int .u64 (V : Int), .int .i64 (a' : Int), .int .i64 (b' : Int)])
              have hne : Hid (w3.heap.size ≠ w2.heap.size) := by have := S3'.bx.lt; show _ ≠ _; omega
              have E3 := hide (E3'.alloc (.cells #[.int .i64 ((i : Int) + 1), .int .u64 (V : Int), .int .i64 (a' : Int), .int .i64 (b' : Int)] 24))
              have S3 := hide (S3'.alloc (.cells #[.int .i64 ((i : Int) + 1), .int .u64 (V : Int), .int .i64 (a' : Int), .int .i64 (b' : Int)] 24))
              clear E3' S3' W3 D3 P LN s0 s1 s2 s3
              have L3 := hide (lenWr E3.out.wr)
              have bt := but_set4 (w3.alloc (.cells #[.int .i64 ((i : Int) + 1), .int .u64 (V : Int), .int .i64 (a' : Int), .int .i64 (b' : Int)] 24)) w2.heap.size (.int .i64 ((i : Int) + 1)) (.int .u64 (V : Int)) (.int .i64 (a' : Int)) (.int .i64 (b' : Int))
              have E4 := hide (E3.out.but bt (Nat.le_refl _) S3.out.nf)
              have S4 : Hid (Kx _ p v3 w2.heap.size 24 #[.int .i64 ((i : Int) + 1), .int .u64 (V : Int), .int .i64 (a' : Int), .int .i64 (b' : Int)]) := ⟨S3.out.bx.set4 (.int .i64 ((i : Int) + 1)) (.int .u64 (V : Int)) (.int .i64 (a' : Int)) (.int .i64 (b' : Int)), S3.out.nf⟩
              obtain ⟨q0, q1, q2, q3, q4, q5, q6, q7, q8, q9, q10⟩ := S3.out.bx.st4
              have x0 := X3.out.bx.st4.c0
              have x1 := X3.out.bx.st4.c1
              have x2 := X3.out.bx.st4.c2
              have x3 := X3.out.bx.st4.c3
              clear bt
              go_wp2_with fail
              refine L3.out.mono ?_
              rintro e wq ⟨rfl, rfl⟩
              go_wp2_with fail
              go_roundw
              case rel => exact ⟨i + 1, n1, _, V, a', b', v3, k1.out, by go_num, k2.out, hok'.out, hV'.out, E4, S4⟩
              case measure => simp [intOf]; omega
            · have g3 : ¬ (Y : Int) = 1 := by omega
              replace en1 := hide en1
              replace eY := hide eY
              replace ea := hide ea
              replace eb := hide eb
              replace hY78 := hide hY78
              replace hY1 := hide hY1
              replace hn0 := hide hn0
              go_wp2_with fail
              refine LN.out.mono ?_
              rintro e wq ⟨rfl, rfl⟩
              go_wp2_with fail
              refine P.out.mono ?_
              rintro e w3 ⟨rfl, v3, W3, D3⟩
              have E3' := E.out.put D3 W3
              have S3' := S.out.did D3
              have X3 := hide (Kx.new E3'.wr 24 #[.int .i64 ((i : Int) + 1), .int .u64 (V : Int), .int .i64 (a' : Int), .int .i64 (b' : Int)])
              have hne : Hid (w3.heap.size ≠ w2.heap.size) := by have := S3'.bx.lt; show _ ≠ _; omega
              have E3 := hide (E3'.alloc (.cells #[.int .i64 ((i : Int) + 1), .int .u64 (V : Int), .int .i64 (a' : Int), .int .i64 (b' : Int)] 24))
              have S3 := hide (S3'.alloc (.cells #[.int .i64 ((i : Int) + 1), .int .u64 (V : Int), .int .i64 (a' : Int), .int .i64 (b' : Int)] 24))
              clear E3' S3' W3 D3 P LN s0 s1 s2 s3
              have L3 := hide (lenWr E3.out.wr)
              have bt := but_set4 (w3.alloc (.cells #[.int .i64 ((i : Int) + 1), .int .u64 (V : Int), .int .i64 (a' : Int), .int .i64 (b' : Int)] 24)) w2.heap.size (.int .i64 ((i : Int) + 1)) (.int .u64 (V : Int)) (.int .i64 (a' : Int)) (.int .i64 (b' : Int))
              have E4 := hide (E3.out.but bt (Nat.le_refl _) S3.out.nf)
              have S4 : Hid (Kx _ p v3 w2.heap.size 24 #[.int .i64 ((i : Int) + 1), .int .u64 (V : Int), .int .i64 (a' : Int), .int .i64 (b' : Int)]) := ⟨S3.out.bx.set4 (.int .i64 ((i : Int) + 1)) (.int .u64 (V : Int)) (.int .i64 (a' : Int)) (.int .i64 (b' : Int)), S3.out.nf⟩
              obtain ⟨q0, q1, q2, q3, q4, q5, q6, q7, q8, q9, q10⟩ := S3.out.bx.st4
              have x0 := X3.out.bx.st4.c0
              have x1 := X3.out.bx.st4.c1
              have x2 := X3.out.bx.st4.c2
              have x3 := X3.out.bx.st4.c3
              clear bt
              go_wp2_with fail
              refine L3.out.mono ?_
              rintro e wq ⟨rfl, rfl⟩
              go_wp2_with fail
              go_roundw
              case rel => exact ⟨i + 1, n1, _, V, a', b', v3, k1.out, by go_num, k2.out, hok'.out, hV'.out, E4, S4⟩
              case measure => simp [intOf]; omega
          · have hone : cN i L a b L = 1 := by unfold cN dN; rw [if_neg h0, Nat.xor_self, if_pos rfl]
            clear hb1
            replace hV := hL
            have LN := hide (lenWr E.out.wr)
            obtain ⟨a', ea⟩ : ∃ a', cA i L a b L = a' := ⟨_, rfl⟩
            obtain ⟨b', eb⟩ : ∃ b', cB i L a b L = b' := ⟨_, rfl⟩
            obtain ⟨Y, eY⟩ : ∃ Y, cN i L a b L = Y := ⟨_, rfl⟩
            obtain rfl : Y = 1 := by omega
            have P := hide (putXi (n := i) (L := L) (a := a) (b := b) (V := L) (ni' := (i : Int) + 1) E.out.wr E.out.t hpos.out hok.out hL.out hV.out (by omega) rfl rfl rfl rfl rfl (by omega) ea rfl eb rfl eY rfl)
            have hok' := hide (ok_next (L := L) (v := L) hok.out hL.out hV.out (by omega))
            rw [ea, eb] at hok'
            have hY78 := cN_le (L := L) (v := L) hok.out hL.out hV.out
            have hY1 := cN_pos i L a b L
            rw [eY] at hY78 hY1
            try simp only [show ((1 : Nat) : Int) = 1 from rfl] at *
            obtain ⟨n1, en1⟩ : ∃ n1, n0 + 1 = n1 := ⟨_, rfl⟩
            rw [en1] at P
            have hsub : (n1 : Int) - (n0 : Int) = 1 := by omega
            have k1 := hide (show i + 1 ≤ 60 by omega)
            have k2 := hide (show n1 ≤ 78 * (i + 1) by omega)
            have hV' := hV
            have i1 : (n1 : Int) ≤ 4680 := by omega
            have i2 : (n0 : Int) ≤ 4680 := by omega
            have i3 : (i : Int) ≤ 59 := by omega
            have s0 := S.out.bx.st4.c0
            have s1 := S.out.bx.st4.c1
            have s2 := S.out.bx.st4.c2
            have s3 := S.out.bx.st4.c3
            replace en1 := hide en1
            replace eY := hide eY
            replace ea := hide ea
            replace eb := hide eb
            replace hY78 := hide hY78
            replace hY1 := hide hY1
            replace hn0 := hide hn0
            go_wp2_with fail
            refine LN.out.mono ?_
            rintro e wq ⟨rfl, rfl⟩
            go_wp2_with fail
            refine P.out.mono ?_
            rintro e w3 ⟨rfl, v3, W3, D3⟩
            have E3' := E.out.put D3 W3
            have S3' := S.out.did D3
            have X3 := hide (Kx.new E3'.wr 24 #[.int .i64 ((i : Int) + 1), .int .u64 (L : Int), .int .i64 (a' : Int), .int .i64 (b' : Int)])
            have hne : Hid (w3.heap.size ≠ w2.heap.size) := by have := S3'.bx.lt; show _ ≠ _; omega
            have E3 := hide (E3'.alloc (.cells #[.int .i64 ((i : Int) + 1), .int .u64 (L : Int), .int .i64 (a' : Int), .int .i64 (b' : Int)] 24))
            have S3 := hide (S3'.alloc (.cells #[.int .i64 ((i : Int) + 1), .int .u64 (L : Int), .int .i64 (a' : Int), .int .i64 (b' : Int)] 24))
            clear E3' S3' W3 D3 P LN s0 s1 s2 s3
            have L3 := hide (lenWr E3.out.wr)
            have bt := but_set4 (w3.alloc (.cells #[.int .i64 ((i : Int) + 1), .int .u64 (L : Int), .int .i64 (a' : Int), .int .i64 (b' : Int)] 24)) w2.heap.size (.int .i64 ((i : Int) + 1)) (.int .u64 (L : Int)) (.int .i64 (a' : Int)) (.int .i64 (b' : Int))
            have E4 := hide (E3.out.but bt (Nat.le_refl _) S3.out.nf)
            have S4 : Hid (Kx _ p v3 w2.heap.size 24 #[.int .i64 ((i : Int) + 1), .int .u64 (L : Int), .int .i64 (a' : Int), .int .i64 (b' : Int)]) := ⟨S3.out.bx.set4 (.int .i64 ((i : Int) + 1)) (.int .u64 (L : Int)) (.int .i64 (a' : Int)) (.int .i64 (b' : Int)), S3.out.nf⟩
            obtain ⟨q0, q1, q2, q3, q4, q5, q6, q7, q8, q9, q10⟩ := S3.out.bx.st4
            have x0 := X3.out.bx.st4.c0
            have x1 := X3.out.bx.st4.c1
            have x2 := X3.out.bx.st4.c2
            have x3 := X3.out.bx.st4.c3
            clear bt
            go_wp2_with fail
            refine L3.out.mono ?_
            rintro e wq ⟨rfl, rfl⟩
            go_wp2_with fail
            go_roundw
            case rel => exact ⟨i + 1, n1, _, L, a', b', v3, k1.out, by go_num, k2.out, hok'.out, hV'.out, E4, S4⟩
            case measure => simp [intOf]; omega
        · have z1 : ¬ (i : Int) < (len1 : Int) := by omega
          clear hB1
          have LN := hide (lenWr E.out.wr)
          obtain ⟨a', ea⟩ : ∃ a', cA i L a b V = a' := ⟨_, rfl⟩
          obtain ⟨b', eb⟩ : ∃ b', cB i L a b V = b' := ⟨_, rfl⟩
          obtain ⟨Y, eY⟩ : ∃ Y, cN i L a b V = Y := ⟨_, rfl⟩
          have P := hide (putXi (n := i) (L := L) (a := a) (b := b) (V := V) (ni' := (i : Int) + 1) E.out.wr E.out.t hpos.out hok.out hL.out hV.out (by omega) rfl rfl rfl rfl rfl (by omega) ea rfl eb rfl eY rfl)
          have hok' := hide (ok_next (L := L) (v := V) hok.out hL.out hV.out (by omega))
          rw [ea, eb] at hok'
          have hY78 := cN_le (L := L) (v := V) hok.out hL.out hV.out
          have hY1 := cN_pos i L a b V
          rw [eY] at hY78 hY1
          obtain ⟨n1, en1⟩ : ∃ n1, n0 + Y = n1 := ⟨_, rfl⟩
          rw [en1] at P
          have hsub : (n1 : Int) - (n0 : Int) = (Y : Int) := by omega
          have k1 := hide (show i + 1 ≤ 60 by omega)
          have k2 := hide (show n1 ≤ 78 * (i + 1) by omega)
          have hV' := hV
          have i1 : (n1 : Int) ≤ 4680 := by omega
          have i2 : (n0 : Int) ≤ 4680 := by omega
          have i3 : (i : Int) ≤ 59 := by omega
          have s0 := S.out.bx.st4.c0
          have s1 := S.out.bx.st4.c1
          have s2 := S.out.bx.st4.c2
          have s3 := S.out.bx.st4.c3
          have g1 : ¬ (Y : Int) < 1 := by omega
          have g2 : ¬ (78 : Int) < (Y : Int) := by omega
          by_cases hone : Y = 1
          · have hVL : V = L := xor_same (dN_one (a := a) (b := b) (by have := eY; unfold cN at this; rw [if_neg h0] at this; omega))
            subst hVL
            have g3 : (Y : Int) = 1 := by omega
            subst hone
            simp only [show ((1 : Nat) : Int) = 1 from rfl] at *
            replace en1 := hide en1
            replace eY := hide eY
            replace ea := hide ea
            replace eb := hide eb
            replace hY78 := hide hY78
            replace hY1 := hide hY1
            replace hn0 := hide hn0
            go_wp2_with fail
            refine LN.out.mono ?_
            rintro e wq ⟨rfl, rfl⟩
            go_wp2_with fail
            refine P.out.mono ?_
            rintro e w3 ⟨rfl, v3, W3, D3⟩
            have E3' := E.out.put D3 W3
            have S3' := S.out.did D3
            have X3 := hide (Kx.new E3'.wr 24 #[.int .i64 ((i : Int) + 1), .int .u64 (V : Int), .int .i64 (a' : Int), .int .i64 (b' : Int)])
            have hne : Hid (w3.heap.size ≠ w2.heap.size) := by have := S3'.bx.lt; show _ ≠ _; omega
            have E3 := hide (E3'.alloc (.cells #[.int .i64 ((i : Int) + 1), .int .u64 (V : Int), .int .i64 (a' : Int), .int .i64 (b' : Int)] 24))
            have S3 := hide (S3'.alloc (.cells #[.int .i64 ((i : Int) + 1), .int .u64 (V : Int), .int .i64 (a' : Int), .int .i64 (b' : Int)] 24))
            clear E3' S3' W3 D3 P LN s0 s1 s2 s3
            have L3 := hide (lenWr E3.out.wr)
            have bt := but_set4 (w3.alloc (.cells #[.int .i64 ((i : Int) + 1), .int .u64 (V : Int), .int .i64 (a' : Int), .int .i64 (b' : Int)] 24)) w2.heap.size (.int .i64 ((i : Int) + 1)) (.int .u64 (V : Int)) (.int .i64 (a' : Int)) (.int .i64 (b' : Int))
            have E4 := hide (E3.out.but bt (Nat.le_refl _) S3.out.nf)
            have S4 : Hid (Kx _ p v3 w2.heap.size 24 #[.int .i64 ((i : Int) + 1), .int .u64 (V : Int), .int .i64 (a' : Int), .int .i64 (b' : Int)]) := ⟨S3.out.bx.set4 (.int .i64 ((i : Int) + 1)) (.int .u64 (V : Int)) (.int .i64 (a' : Int)) (.int .i64 (b' : Int)), S3.out.nf⟩
            obtain ⟨q0, q1, q2, q3, q4, q5, q6, q7, q8, q9, q10⟩ := S3.out.bx.st4
            have x0 := X3.out.bx.st4.c0
            have x1 := X3.out.bx.st4.c1
            have x2 := X3.out.bx.st4.c2
            have x3 := X3.out.bx.st4.c3
            clear bt
            go_wp2_with fail
            refine L3.out.mono ?_
            rintro e wq ⟨rfl, rfl⟩
            go_wp2_with fail
            go_roundw
            case rel => exact ⟨i + 1, n1, _, V, a', b', v3, k1.out, by go_num, k2.out, hok'.out, hV'.out, E4, S4⟩
            case measure => simp [intOf]; omega
          · have g3 : ¬ (Y : Int) = 1 := by omega
            replace en1 := hide en1
            replace eY := hide eY
            replace ea := hide ea
            replace eb := hide eb
            replace hY78 := hide hY78
            replace hY1 := hide hY1
            replace hn0 := hide hn0
            go_wp2_with fail
            refine LN.out.mono ?_
            rintro e wq ⟨rfl, rfl⟩
            go_wp2_with fail
            refine P.out.mono ?_
            rintro e w3 ⟨rfl, v3, W3, D3⟩
            have E3' := E.out.put D3 W3
            have S3' := S.out.did D3
            have X3 := hide (Kx.new E3'.wr 24 #[.int .i64 ((i : Int) + 1), .int .u64 (V : Int), .int .i64 (a' : Int), .int .i64 (b' : Int)])
            have hne : Hid (w3.heap.size ≠ w2.heap.size) := by have := S3'.bx.lt; show _ ≠ _; omega
            have E3 := hide (E3'.alloc (.cells #[.int .i64 ((i : Int) + 1), .int .u64 (V : Int), .int .i64 (a' : Int), .int .i64 (b' : Int)] 24))
            have S3 := hide (S3'.alloc (.cells #[.int .i64 ((i : Int) + 1), .int .u64 (V : Int), .int .i64 (a' : Int), .int .i64 (b' : Int)] 24))
            clear E3' S3' W3 D3 P LN s0 s1 s2 s3
            have L3 := hide (lenWr E3.out.wr)
            have bt := but_set4 (w3.alloc (.cells #[.int .i64 ((i : Int) + 1), .int .u64 (V : Int), .int .i64 (a' : Int), .int .i64 (b' : Int)] 24)) w2.heap.size (.int .i64 ((i : Int) + 1)) (.int .u64 (V : Int)) (.int .i64 (a' : Int)) (.int .i64 (b' : Int))
            have E4 := hide (E3.out.but bt (Nat.le_refl _) S3.out.nf)
            have S4 : Hid (Kx _ p v3 w2.heap.size 24 #[.int .i64 ((i : Int) + 1), .int .u64 (V : Int), .int .i64 (a' : Int), .int .i64 (b' : Int)]) := ⟨S3.out.bx.set4 (.int .i64 ((i : Int) + 1)) (.int .u64 (V : Int)) (.int .i64 (a' : Int)) (.int .i64 (b' : Int)), S3.out.nf⟩
            obtain ⟨q0, q1, q2, q3, q4, q5, q6, q7, q8, q9, q10⟩ := S3.out.bx.st4
            have x0 := X3.out.bx.st4.c0
            have x1 := X3.out.bx.st4.c1
            have x2 := X3.out.bx.st4.c2
            have x3 := X3.out.bx.st4.c3
            clear bt
            go_wp2_with fail
            refine L3.out.mono ?_
            rintro e wq ⟨rfl, rfl⟩
            go_wp2_with fail
            go_roundw
            case rel => exact ⟨i + 1, n1, _, V, a', b', v3, k1.out, by go_num, k2.out, hok'.out, hV'.out, E4, S4⟩
            case measure => simp [intOf]; omega
    · have B := hide (b2'.out.trans E.out.d.bel)
      clear E S
      by_cases h1 : i < len0
      · have j1 : (i : Int) < (len0 : Int) := by omega
        have j2 : ¬ (i : Int) < 60 := by omega
        replace hlt := hide hlt
        go_wp2_with fail
        go_ret
        exact ⟨rfl, B.out⟩
      · have j1 : ¬ (i : Int) < (len0 : Int) := by omega
        replace hlt := hide hlt
        go_wp2_with fail
        go_ret
        exact ⟨rfl, B.out⟩

set_option maxRecDepth 100000 in
theorem lifted (os : Os) (started : os.Started) (H : Type) (enc : TypeId × Value → H) :
    ReturnsInHanded {} Tryd.checked os 7 .any (fun w args => (Rows.xorSmallSpec.pre enc Tryd.prog Tryd.f7 [] false w args ∧ laidMetH Tryd.prog laidAll w) ∧ sizedMet enc Tryd.prog Tryd.f7 (OpenSpec.ofChange Rows.xorSmallSpec) false w args) (Rows.xorSmallSpec.post enc Tryd.prog Tryd.f7 false true false false) := by
  refine returnsInHanded_of_change_and (C := Tryd.checked) (X := fun w _ => laidMetH Tryd.prog laidAll w) (fun _ _ _ hh h => h.of_heap hh) own started (by kernel_rfl) Tryd.func7
    (ChangeSpec.witness_shaped (enc := enc) (C := Tryd.checked) (os := os) (X := fun w _ => laidMetH Tryd.prog laidAll w) false (World.doorLaid Tryd.prog 400 os) #[.slice none 0 0, .slice none 0 0] 8 rfl (World.shaped_of_RefB (by kernel_rfl) (by kernel_rfl)) (by kernel_rfl) (by kernel_rfl) (by kernel_rfl) (door_met os _)) ?_
  intro W base args ds gs before hval0 hW _ _ hL _
  have hval : ∀ (j : Nat) t v, Tryd.f7.params[j]? = some t → args[j]? = some v → Value.okWide Tryd.prog W .any base t v := hval0
  have hW' := hW
  obtain ⟨p, q, hA0, hV, rfl, hfz, hnd⟩ := hW
  have hA : DataW.TrodAll enc Tryd.prog W 0 (fun _ => true) true Tryd.f7.params.toList args.toList ds p := hA0
  rw [Tryd.params7] at hA hval
  obtain ⟨v0, vs0, d0, ds0, p0, q0, hargs, rfl, rfl, h0, r0⟩ := trodAll_cons hA
  obtain ⟨v1, vs1, d1, ds1, p1, q1, rfl, rfl, rfl, h1, r1⟩ := trodAll_cons r0
  obtain ⟨rfl, rfl, rfl⟩ := trodAll_nil r1
  obtain rfl : args = #[v0, v1] := by cases args; simp_all
  obtain ⟨rfl, rfl⟩ := trodVars_none hV
  obtain ⟨a0, len0, cap0, rfl⟩ := okWide_slice Tryd.underlying60 (hval 0 60 v0 rfl rfl)
  have k0 := h0
  have lt0 : ∀ x ∈ p0, x.block < W.heap.size := by obtain ⟨m, hm⟩ := k0; exact DataW.trod_lt m _ _ _ hm
  obtain ⟨l0, w0⟩ := came_u64s h0
  obtain ⟨a1, len1, cap1, rfl⟩ := okWide_slice Tryd.underlying28 (hval 1 28 v1 rfl rfl)
  have k1 := h1
  have lt1 : ∀ x ∈ p1, x.block < W.heap.size := by obtain ⟨m, hm⟩ := k1; exact DataW.trod_lt m _ _ _ hm
  obtain ⟨l1, w1⟩ := came_bools h1
  clear hA0 hval0
  have ht := facts_of_laid hL
  refine (walk a0 len0 cap0 l0 a1 len1 cap1 l1 W ht w0 w1).mono fun e W' ⟨he, bel⟩ => ?_
  subst he
  exact ⟨_, rfl, _, _, _, [], _, [], hW', trodAll_mk1 (shut_bool Tryd.underlying4 _), (trodAll_cons_mk (Below.trod laidOut (by kernel_rfl) (of_decide_eq_true (by kernel_rfl)) k0 bel lt0) (trodAll_cons_mk (Below.trod laidOut (by kernel_rfl) (of_decide_eq_true (by kernel_rfl)) k1 bel lt1) trodAll_mk0)), rfl, bel.frame _, fun h => by cases h⟩

theorem over : Rows.xorSmallRow.holds Tryd.pinned (OpenSpec.ofChange Rows.xorSmallSpec) :=
  OpenClaim.holds_of_wide 7 Tryd.f7 rfl rfl rfl rfl rfl rfl rfl ⟨rfl, rfl, rfl, rfl, rfl⟩ rfl rfl rfl rfl rfl (by kernel_rfl) Tryd.func7 (by kernel_rfl)
    (of_decide_eq_true (by kernel_rfl)) (by unfold Func.isWrapper; first | (rw [if_pos (by decide +kernel)]; kernel_rfl) | (rw [if_neg (by decide +kernel)]; exact ⟨rfl, rfl⟩))
    (fun os started H enc _ => lifted os started H enc)

/-- The statement: the tied card. -/
theorem proved : Rows.XorSmallCardSaid :=
  Claim7.holds_tied_plain_at .later [] [.data] true _ false
    over (fun _ h => by cases h) (by kernel_rfl) (fun _ h => by cases h) xorSmall_row_tie rfl ⟨rfl, rfl⟩ (by kernel_rfl) rfl
    (fun f fn hf hfn => by
      obtain rfl : f = 7 := Option.some.inj ((show Tryd.prog.funcNamed "tidepole/tidepolelaw07.XorSmall" = some 7 by kernel_rfl).symm.trans hf) |>.symm
      obtain rfl : fn = Tryd.f7 := (Option.some.inj (Tryd.func7.symm.trans hfn)).symm
      exact ⟨by kernel_rfl, fun j t ht => by
        rw [Tryd.params7] at ht
        have hm : t ∈ [60, 28] := by have := Array.mem_of_getElem? ht; simp at this ⊢; omega
        have hall : ([60, 28].all fun u => !Tryd.prog.wantsStandIn u) = true := by kernel_rfl
        exact (show Tryd.prog.wantsStandIn t = false by simpa using List.all_eq_true.1 hall t hm)⟩)
    (by kernel_rfl)
#print axioms proved
end Go.Proofs.YtmddkinecplooaaDoor.xorSmall
