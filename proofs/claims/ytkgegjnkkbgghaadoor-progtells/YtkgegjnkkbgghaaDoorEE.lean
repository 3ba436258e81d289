/-
  Text, by the reference, of any instructions.
-/
import Derived.Test.YtkgegjnkkbgghaaDoorED
import Derived.Test.YtkgegjnkkbgghaaDoorEC
namespace Go.Proofs.YtkgegjnkkbgghaaDoor
open Go.RowKit Go.Shelf Go.Lib
set_option linter.unusedVariables false
set_option linter.unusedSimpArgs false

theorem run_add9 {dst : Option Nat} {ty : TypeId} {pos : String} {after : Array Edge} {x y : Operand} (ev : Operand → Value) (a b c : ByteArray) (hx : ev x = .string a) (hy : ev y = .string b) (h : a.size + b.size ≤ 1000000) (hc : a ++ b = c) (w : World) : (execOp ev ⟨dst, .binOp .add 9 x y 9, ty, pos, after, none⟩).run Tryd.prog w = .ok (.value (.string c)) w := by
  have h1 : ¬ (9223372036854775807 < a.size + b.size) := by omega
  have h2 : a.size + b.size ≤ 9223372036854775807 := by omega
  subst hc
  unfold execOp
  simp only [hx, hy]
  go_simp
theorem at_add9 {ops : Array Oper} {rest : List Oper} {a : Act} {Q : Exit → Act → World → Prop} {w : World} {dst : Option Nat} {ty : TypeId} {pos : String} {after : Array Edge} {x y : Operand} (h : wpList Tryd.prog ops Q (⟨dst, .binOp .add 9 x y 9, ty, pos, after, none⟩ :: rest) a w) : wpList Tryd.prog ops Q (⟨dst, .binOp .add 9 x y 9, ty, pos, after, none⟩ :: rest) a w := h
/-- Bytes as a text. -/
def bA (l : List UInt8) : ByteArray := ⟨l.toArray⟩
theorem bA_add (a b : List UInt8) : bA a ++ bA b = bA (a ++ b) := by
  show (⟨a.toArray⟩ : ByteArray) ++ (⟨b.toArray⟩ : ByteArray) = ⟨(a ++ b).toArray⟩
  apply ByteArray.ext
  rw [ByteArray.data_append]
  simp
theorem bA_size (a : List UInt8) : (bA a).size = a.length := rfl
theorem line1 (s : S4) (x y : Int) : lineI ⟨1, s, x, y⟩ = [98, 121, 116, 101, 32] ++ itoa (csn s 4) ++ [32] ++ itoa x ++ [10] := by
  have e : ∀ c : Int, (fm 1).nm.data.toList ++ nums ((if (fm 1).hs = true then [c] else []) ++ [x, y].take (fm 1).ex) ++ [10] = [98, 121, 116, 101, 32] ++ itoa c ++ [32] ++ itoa x ++ [10] := fun m => by
    have h1 : (fm 1).nm.data.toList = [98, 121, 116, 101] := by simp [fm, nByte]
    have h2 : (fm 1).hs = true := by simp [fm]
    have h3 : (fm 1).ex = 1 := by simp [fm]
    rw [h1, if_pos h2, h3, show [m] ++ List.take 1 [x, y] = [m] ++ [x] from rfl, nums_append, nums_one, nums_one]
    generalize itoa m = p
    generalize itoa x = q
    simp
  exact e (csn s 4)
theorem line1m (s : S4) (x y c : Int) (h : csn s 4 = c) : lineI ⟨1, s, x, y⟩ = [98, 121, 116, 101, 32] ++ itoa c ++ [32] ++ itoa x ++ [10] := by
  subst h
  exact line1 s x y
theorem line2 (s : S4) (x y : Int) : lineI ⟨2, s, x, y⟩ = [115, 112, 108, 105, 116, 32] ++ itoa x ++ [32] ++ itoa y ++ [10] := by
  unfold lineI
  dsimp only
  generalize csn s 4 = m
  have h1 : (fm 2).nm.data.toList = [115, 112, 108, 105, 116] := by simp [fm, nSplit]
  have h2 : (fm 2).hs = false := by simp [fm]
  have h3 : (fm 2).ex = 2 := by simp [fm]
  rw [h1, if_neg (by rw [h2]; decide), h3, show [] ++ List.take 2 [x, y] = [x] ++ [y] from rfl, nums_append, nums_one, nums_one]
  generalize itoa x = p
  generalize itoa y = q
  simp
theorem line3 (s : S4) (x y : Int) : lineI ⟨3, s, x, y⟩ = [101, 110, 100, 10] := by
  unfold lineI
  dsimp only
  generalize csn s 4 = m
  have h1 : (fm 3).nm.data.toList = [101, 110, 100] := by simp [fm, nEnd]
  have h2 : (fm 3).hs = false := by simp [fm]
  have h3 : (fm 3).ex = 0 := by simp [fm]
  rw [h1, if_neg (by rw [h2]; decide), h3, show [] ++ List.take 0 [x, y] = [] from rfl, show nums [] = [] from rfl]
  simp
theorem line4 (s : S4) (x y : Int) : lineI ⟨4, s, x, y⟩ = [106, 117, 109, 112, 32] ++ itoa x ++ [10] := by
  unfold lineI
  dsimp only
  generalize csn s 4 = m
  have h1 : (fm 4).nm.data.toList = [106, 117, 109, 112] := by simp [fm, nJump]
  have h2 : (fm 4).hs = false := by simp [fm]
  have h3 : (fm 4).ex = 1 := by simp [fm]
  rw [h1, if_neg (by rw [h2]; decide), h3, show [] ++ List.take 1 [x, y] = [x] from rfl, nums_one]
  generalize itoa x = p
  simp
theorem txt_snoc (L : List Ins) (i : Ins) : txtI (L ++ [i]) = txtI L ++ lineI i := by simp [txtI]
theorem chk01 (L : List Ins) : chkI L = 0 ∨ chkI L = 110 := by
  unfold chkI
  split
  · exact .inr rfl
  · split
    · exact .inl rfl
    · exact .inr rfl
theorem chk0 {L : List Ins} (h : chkI L = 0) : 1 ≤ L.length ∧ L.length ≤ 2048 ∧ ∀ i ∈ L, fitI i L.length = true := by
  unfold chkI at h
  split at h
  · cases h
  · rename_i h1
    split at h
    · rename_i h2
      rw [List.all_eq_true] at h2
      exact ⟨by omega, by omega, h2⟩
    · cases h
theorem cnt_all2 (s : S4) (h : OkS s) (b : Nat) (hb : b = 256) : csn s 4 = ((cntS s b : Nat) : Int) := by rw [hb]; exact cnt_all s h
theorem bit01 (s : S4) (b : Nat) : bitS s b = 0 ∨ bitS s b = 1 := by
  have h : bitS s b < 2 := Nat.mod_lt _ (by omega)
  generalize bitS s b = z at *
  omega
theorem cnt_s0 {s : S4} {b : Nat} (h : bitS s b = 0) : cntS s (b + 1) = cntS s b := by rw [cntS, h]; rfl
theorem cnt_s1 {s : S4} {b : Nat} (h : bitS s b = 1) : cntS s (b + 1) = cntS s b + 1 := by rw [cntS, h]
theorem itoa_len5 (n : Nat) (h : n < 4096) : (itoa (n : Int)).length ≤ 6 := itoa_len _ (by omega) (by omega)
theorem takeI_snoc {L : List Ins} {k : Nat} {i : Ins} (h : L[k]? = some i) : L.take (k + 1) = L.take k ++ [i] := by
  obtain ⟨hk, e⟩ := List.getElem?_eq_some_iff.1 h
  rw [List.take_succ_eq_append_getElem hk, e]
set_option maxHeartbeats 8000000 in
set_option maxRecDepth 100000 in
theorem rtext_any (ad : Option Addr) (c : Nat) (L : List Ins) (w : World) (hL : HsI w (fun k => k < w.heap.size) ad L) (hm : L.length ≤ maxLen) (hok : ∀ i ∈ L, OkS i.s) : Calls Tryd.prog 16 #[.slice ad L.length c] w fun e w' => e = .returned (TextV L) ∧ Below w.heap.size w w' := by
  have CK := hide (rchk_any ad c L w hL hm)
  unfold maxLen at hm
  rcases chk01 L with hc | hc
  case inr =>
    unfold TextV
    rw [hc] at CK
    rw [if_neg (by rw [hc]; decide), hc]
    go_enter Tryd.func16, Tryd.ntmps16
    go_wp2_with fail
    refine CK.out.mono ?_
    rintro e w1 ⟨rfl, B1⟩
    go_wp2_with fail
    go_ret2
    exact ⟨rfl, B1⟩
  obtain ⟨hl1, hl2, hfit⟩ := chk0 hc
  unfold TextV
  rw [if_pos hc]
  rw [hc] at CK
  generalize hres : (⟨(txtI L).toArray⟩ : ByteArray) = res
  replace hres := hide hres
  clear hc
  replace hL := hide hL
  replace hfit := hide hfit
  replace hok := hide hok
  go_enter Tryd.func16, Tryd.ntmps16
  go_wp2_with fail
  refine CK.out.mono ?_
  rintro e w1 ⟨rfl, B1⟩
  replace B1 := hide B1
  clear CK
  go_wp2_with fail
  go_loopw [4, 5] (fun sv b wr => ∃ (k : Nat) (S : ByteArray), k ≤ L.length ∧ sv = .string S ∧ b = .int .i64 (k : Int) ∧ Hid (S = bA (txtI (L.take k)) ∧ S.size ≤ 40 * k) ∧ Hid (Below w.heap.size w wr)) (fun _ b _ => L.length - (RowKit.intOf b).toNat)
  case atStart => exact ⟨0, _, Nat.zero_le _, rfl, rfl, ⟨by simp [txtI, bA], Nat.zero_le _⟩, B1⟩
  case round =>
    obtain ⟨k, S, hk, rfl, rfl, hS, Fr⟩ := hrel
    obtain ⟨wo, hwo⟩ : ∃ wo, wo = wr := ⟨_, rfl⟩
    subst hwo
    by_cases hlt : k < L.length
    case neg =>
      obtain rfl : k = L.length := by omega
      have hS2 : S = res := by rw [hS.out.1, ← hres.out, List.take_length]; rfl
      subst hS2
      go_wp2_with fail
      go_ret2
      exact ⟨rfl, Fr.out⟩
    have i5 : (k : Int) < (L.length : Int) := Int.ofNat_lt.2 hlt
    obtain ⟨i, hi⟩ : ∃ i, L[k]? = some i := ⟨_, List.getElem?_eq_getElem hlt⟩
    obtain ⟨b, off, rfl, hld⟩ := hL.out.load (fun k hk hl => Fr.out.block k hk) hi
    have hf := hfit.out i (List.mem_of_getElem? hi)
    have hos := hok.out i (List.mem_of_getElem? hi)
    have hfl := fit_fields hf hl2
    have hln := line_len hf hl2
    have hnext : Hid (∀ S', S' = bA (txtI (L.take k) ++ lineI i) → S' = bA (txtI (L.take (k + 1))) ∧ S'.size ≤ 40 * (k + 1)) := fun S' hS' => by
      have hs := hS.out
      subst hS'
      rw [takeI_snoc hi, txt_snoc]
      refine ⟨rfl, ?_⟩
      have h2 := hs.2
      rw [hs.1] at h2
      rw [bA_size, List.length_append]
      rw [bA_size] at h2
      omega
    have hltH := hide hlt
    have hSe : Hid (S = bA (txtI (L.take k))) := hS.out.1
    have hSz : S.size ≤ 81920 := by have := hS.out.2; omega
    have H := St.start Nope wo
    replace hi := hide hi
    clear hlt hk hS hf hln
    obtain ⟨op, s, x, y⟩ := i
    simp only at hfl hos
    obtain ⟨ho, hx0, hx1, hy0, hy1⟩ := hfl
    obtain ⟨x, rfl⟩ := Int.eq_ofNat_of_zero_le hx0
    obtain ⟨y, rfl⟩ := Int.eq_ofNat_of_zero_le hy0
    have hxn : x < 4096 := by omega
    have hyn : y < 4096 := by omega
    clear hx0 hx1 hy0 hy1
    have ITx := hide (fun w => bitoa_any x (by omega) w)
    have ITy := hide (fun w => bitoa_any y (by omega) w)
    have lx := itoa_len5 x hxn
    have ly := itoa_len5 y hyn
    rcases ho with rfl | rfl | rfl | rfl
    · replace hos := hide hos
      go_wp2_with (first | ((with_reducible refine at_load 45 ?_); refine wl_loadA 45 rfl hld ?_) | ((with_reducible refine at_alloc 45 ?_); refine wl_allocI H ?_; clear H; intro g w1 H q1 q2) | ((with_reducible refine at_store 45 ?_); refine wl_storeI 0 (q := ⟨1, s, (x : Int), (y : Int)⟩) H rfl rfl rfl ?_; clear H; intro w2 H; have c0 := H.cell 0 0 rfl (v := .int .i64 1) rfl; have c5 := H.cell 0 5 rfl (v := .int .i64 (x : Int)) rfl; have c6 := H.cell 0 6 rfl (v := .int .i64 (y : Int)) rfl))
      have lH := hide (H.lti 0 rfl)
      replace H := hide H
      clear c0 c5 c6
      go_loopw [7, 8] (fun nv bv ws => ∃ b : Nat, b ≤ 256 ∧ nv = .int .i64 ((cntS s b : Nat) : Int) ∧ bv = .int .i64 (b : Int) ∧ Hid (St Nope wo ws [(true, g, 45, insA ⟨1, s, (x : Int), (y : Int)⟩)])) (fun _ bv _ => 256 - (RowKit.intOf bv).toNat)
      case atStart => exact ⟨0, by omega, rfl, rfl, H⟩
      case round =>
        obtain ⟨b, hb, rfl, rfl, Hr⟩ := hrel
        by_cases hb2 : b < 256
        · have j1 : (b : Int) < 256 := by omega
          have hu : IntKind.u8.wrap (b : Int) = (b : Int) := by simp [IntKind.wrap, IntKind.signed, IntKind.bits]; omega
          have hld24 := Hr.out.ins 0 rfl
          have hbH := hide hb2
          obtain ⟨cb, hcb⟩ : ∃ cb : Nat, cntS s b = cb := ⟨_, rfl⟩
          have hcl : cb ≤ 256 := by rw [← hcb]; exact Nat.le_trans (cnt_le s b) (Nat.le_of_lt hb2)
          rw [hcb]
          replace hcb := hide hcb
          go_wp2_with (first | ((with_reducible refine at_load 24 ?_); refine wl_loadA 24 rfl hld24 ?_))
          refine (has_any s hos.out b hb2 _).mono ?_
          rintro e w4 ⟨rfl, B4⟩
          have H4 := hide (Hr.out.call B4 (Nat.le_refl _))
          rcases bit01 s b with h0 | h1
          · have t1 : (bitS s b == 1) = false := by rw [h0]; rfl
            have hc2 : Hid (cntS s (b + 1) = cb) := (cnt_s0 h0).trans hcb.out
            rw [t1]
            clear B4 Hr h0 t1
            go_wp2_with fail
            go_roundw
            case rel => exact ⟨b + 1, hbH.out, by rw [hc2.out], by go_num, H4⟩
            case measure => have := hbH.out; simp [RowKit.intOf]; omega
          · have t1 : (bitS s b == 1) = true := by rw [h1]; rfl
            have hc2 : Hid (cntS s (b + 1) = cb + 1) := (cnt_s1 h1).trans (by rw [hcb.out])
            rw [t1]
            clear B4 Hr h1 t1
            go_wp2_with fail
            go_roundw
            case rel => exact ⟨b + 1, hbH.out, by rw [hc2.out]; go_num, by go_num, H4⟩
            case measure => have := hbH.out; simp [RowKit.intOf]; omega
        · have hb256 : b = 256 := by omega
          have j1 : ¬ ((b : Int) < 256) := by omega
          have hca := cnt_all2 s hos.out b hb256
          obtain ⟨m, hm2⟩ : ∃ m : Nat, cntS s b = m := ⟨_, rfl⟩
          have hcl : m ≤ 256 := by rw [← hm2, ← hb256]; exact cnt_le s b
          replace hb256 := hide hb256
          replace hca := hide hca
          rw [hm2] at hca
          rw [hm2]
          replace hm2 := hide hm2
          have hmb : m ≤ 256 := hcl
          have ITm := hide (fun w => bitoa_any m (by omega) w)
          have lm := itoa_len5 m (by omega)
          have hSe2 : Hid (∀ S', S' = S ++ bA ([98, 121, 116, 101, 32] ++ itoa (m : Int) ++ [32] ++ itoa (x : Int) ++ [10]) → S' = bA (txtI (L.take (k + 1))) ∧ S'.size ≤ 40 * (k + 1)) := fun S' h => hnext.out S' (by rw [h, hSe.out, bA_add, line1m s _ _ _ hca.out])
          have c5 := Hr.out.cell 0 5 rfl (v := .int .i64 (x : Int)) rfl
          have lg := Hr.out.lti 0 rfl
          have HB := hide Hr.out.below
          go_wp2_with fail
          refine wp_region_noPanic ?_
          refine wp_region_held_drew (S := (fun w' => w'.cell? ⟨g, 5, none⟩ = some (.int .i64 (x : Int)))) (by kernel_rfl) c5 (fun hH0 => ?_)
          refine wpAnyH_take (i := 0) (oi := { dst := some 37, op := Op.move (Operand.tmp 4), type := 9, pos := "ref.go:148", after := #[], guard := none }) (v := ?_) rfl (by kernel_rfl) (by kernel_rfl) (by kernel_rfl) (fun _ _ _ h => h) (Or.inl ⟨by rfl, ?_⟩) hH0 ?_
          rotate_left
          · intro w' hw'
            obtain c5h := hw'
            go_simp
            try with_reducible rfl
          try simp only [Act.put, List.setIfInBounds_toArray, List.set_cons_zero, List.set_cons_succ]
          refine wpAnyH_take (i := 1) (oi := { dst := some 38, op := Op.move (Operand.tmp 7), type := 3, pos := "ref.go:148", after := #[], guard := none }) (v := ?_) rfl (by kernel_rfl) (by kernel_rfl) (by kernel_rfl) (fun _ _ _ h => h) (Or.inl ⟨by rfl, ?_⟩) hH0 ?_
          rotate_left
          · intro w' hw'
            obtain c5h := hw'
            go_simp
            try with_reducible rfl
          try simp only [Act.put, List.setIfInBounds_toArray, List.set_cons_zero, List.set_cons_succ]
          refine wpAnyH_take (i := 5) (oi := { dst := some 42, op := Op.fieldAddr 45 (Operand.tmp 6) 2, type := 0, pos := "ref.go:148", after := #[], guard := none }) (v := ?_) rfl (by kernel_rfl) (by kernel_rfl) (by kernel_rfl) (fun _ _ _ h => h) (Or.inl ⟨by rfl, ?_⟩) hH0 ?_
          rotate_left
          · intro w' hw'
            obtain c5h := hw'
            go_simp
            try with_reducible rfl
          try simp only [Act.put, List.setIfInBounds_toArray, List.set_cons_zero, List.set_cons_succ]
          refine wpAnyH_take (i := 6) (oi := { dst := some 43, op := Op.load 3 (Operand.tmp 42), type := 3, pos := "ref.go:148", after := #[{ on := 5, ground := Ground.data }], guard := none }) (v := ?_) rfl (by kernel_rfl) (by kernel_rfl) (by kernel_rfl) (fun _ _ _ h => h) (Or.inl ⟨by rfl, ?_⟩) hH0 ?_
          rotate_left
          · intro w' hw'
            obtain c5h := hw'
            go_simp
            try with_reducible rfl
          try simp only [Act.put, List.setIfInBounds_toArray, List.set_cons_zero, List.set_cons_succ]
          refine wpAnyH_ready (rs := [2]) (by kernel_rfl) (by simp) ?_
          refine AllReadyH.cons (o := { dst := some 39, op := Op.call { callee := Callee.value (Operand.func 33), args := #[Operand.tmp 38], argTypes := #[3] }, type := 9, pos := "ref.go:148", after := #[{ on := 1, ground := Ground.data }], guard := none }) rfl (fun K hK => ?_) AllReadyH.nil
          go_simp
          refine (ITm.out _).mono ?_
          rintro e w4 ⟨rfl, B4⟩
          have B4' : Below wr.heap.size wr w4 := (Below.refl _ wr).drew.trans B4
          have c5b := (B4'.cell (p := ⟨g, 5, none⟩) lg).trans c5
          clear B4
          have l4 := B4'.size
          replace B4' := hide B4'
          refine hK.out _ _ c5b (fun hH1 => ?_)
          clear hK
          try simp only [Act.put, List.setIfInBounds_toArray, List.set_cons_zero, List.set_cons_succ]
          refine wpAnyH_take (i := 3) (oi := { dst := some 40, op := Op.binOp BinOp.add 9 (Operand.const (Value.string { data := #[98, 121, 116, 101, 32] })) (Operand.tmp 39) 9, type := 9, pos := "ref.go:148", after := #[{ on := 2, ground := Ground.data }], guard := none }) (v := .string (bA ([98, 121, 116, 101, 32] ++ itoa (m : Int)))) rfl (by kernel_rfl) (by kernel_rfl) (by kernel_rfl) (fun _ _ _ h => h) (Or.inl ⟨by rfl, fun w' hw' => run_add9 _ (bA ([98, 121, 116, 101, 32])) (bA (itoa (m : Int))) _ rfl rfl (by rw [bA_size, bA_size]; simp only [List.length_cons, List.length_nil, List.length_append]; omega) (bA_add _ _) _⟩) hH1 ?_
          try simp only [Act.put, List.setIfInBounds_toArray, List.set_cons_zero, List.set_cons_succ]
          refine wpAnyH_take (i := 4) (oi := { dst := some 41, op := Op.binOp BinOp.add 9 (Operand.tmp 40) (Operand.const (Value.string { data := #[32] })) 9, type := 9, pos := "ref.go:148", after := #[{ on := 3, ground := Ground.data }], guard := none }) (v := .string (bA ([98, 121, 116, 101, 32] ++ itoa (m : Int) ++ [32]))) rfl (by kernel_rfl) (by kernel_rfl) (by kernel_rfl) (fun _ _ _ h => h) (Or.inl ⟨by rfl, fun w' hw' => run_add9 _ (bA ([98, 121, 116, 101, 32] ++ itoa (m : Int))) (bA ([32])) _ rfl rfl (by rw [bA_size, bA_size]; simp only [List.length_cons, List.length_nil, List.length_append]; omega) (bA_add _ _) _⟩) hH1 ?_
          try simp only [Act.put, List.setIfInBounds_toArray, List.set_cons_zero, List.set_cons_succ]
          refine wpAnyH_ready (rs := [7]) (by kernel_rfl) (by simp) ?_
          refine AllReadyH.cons (o := { dst := some 44, op := Op.call { callee := Callee.value (Operand.func 33), args := #[Operand.tmp 43], argTypes := #[3] }, type := 9, pos := "ref.go:148", after := #[{ on := 6, ground := Ground.data }, { on := 2, ground := Ground.chain }], guard := none }) rfl (fun K hK => ?_) AllReadyH.nil
          go_simp
          refine (ITx.out _).mono ?_
          rintro e w7 ⟨rfl, B7⟩
          have c5c := (B7.cell (p := ⟨g, 5, none⟩) (show g < w4.heap.size by omega)).trans c5b
          have B9 := hide (HB.out.trans ((B4'.out.trans (B7.mono l4)).mono HB.out.size))
          clear B7
          refine hK.out _ _ c5c (fun hH2 => ?_)
          clear hK
          try simp only [Act.put, List.setIfInBounds_toArray, List.set_cons_zero, List.set_cons_succ]
          refine wpAnyH_take (i := 8) (oi := { dst := some 45, op := Op.binOp BinOp.add 9 (Operand.tmp 41) (Operand.tmp 44) 9, type := 9, pos := "ref.go:148", after := #[{ on := 4, ground := Ground.data }, { on := 7, ground := Ground.data }], guard := none }) (v := .string (bA ([98, 121, 116, 101, 32] ++ itoa (m : Int) ++ [32] ++ itoa (x : Int)))) rfl (by kernel_rfl) (by kernel_rfl) (by kernel_rfl) (fun _ _ _ h => h) (Or.inl ⟨by rfl, fun w' hw' => run_add9 _ (bA ([98, 121, 116, 101, 32] ++ itoa (m : Int) ++ [32])) (bA (itoa (x : Int))) _ rfl rfl (by rw [bA_size, bA_size]; simp only [List.length_cons, List.length_nil, List.length_append]; omega) (bA_add _ _) _⟩) hH2 ?_
          try simp only [Act.put, List.setIfInBounds_toArray, List.set_cons_zero, List.set_cons_succ]
          refine wpAnyH_take (i := 9) (oi := { dst := some 46, op := Op.binOp BinOp.add 9 (Operand.tmp 45) (Operand.const (Value.string { data := #[10] })) 9, type := 9, pos := "ref.go:148", after := #[{ on := 8, ground := Ground.data }], guard := none }) (v := .string (bA ([98, 121, 116, 101, 32] ++ itoa (m : Int) ++ [32] ++ itoa (x : Int) ++ [10]))) rfl (by kernel_rfl) (by kernel_rfl) (by kernel_rfl) (fun _ _ _ h => h) (Or.inl ⟨by rfl, fun w' hw' => run_add9 _ (bA ([98, 121, 116, 101, 32] ++ itoa (m : Int) ++ [32] ++ itoa (x : Int))) (bA ([10])) _ rfl rfl (by rw [bA_size, bA_size]; simp only [List.length_cons, List.length_nil, List.length_append]; omega) (bA_add _ _) _⟩) hH2 ?_
          try simp only [Act.put, List.setIfInBounds_toArray, List.set_cons_zero, List.set_cons_succ]
          refine wpAnyH_take (i := 10) (oi := { dst := some 47, op := Op.binOp BinOp.add 9 (Operand.tmp 37) (Operand.tmp 46) 9, type := 9, pos := "ref.go:148", after := #[{ on := 0, ground := Ground.data }, { on := 9, ground := Ground.data }], guard := none }) (v := .string (S ++ bA ([98, 121, 116, 101, 32] ++ itoa (m : Int) ++ [32] ++ itoa (x : Int) ++ [10]))) rfl (by kernel_rfl) (by kernel_rfl) (by kernel_rfl) (fun _ _ _ h => h) (Or.inl ⟨by rfl, fun w' hw' => run_add9 _ S (bA ([98, 121, 116, 101, 32] ++ itoa (m : Int) ++ [32] ++ itoa (x : Int) ++ [10])) _ rfl rfl (by rw [bA_size]; simp only [List.length_cons, List.length_nil, List.length_append]; omega) rfl _⟩) hH2 ?_
          try simp only [Act.put, List.setIfInBounds_toArray, List.set_cons_zero, List.set_cons_succ]
          refine wpAnyH_take (i := 11) (oi := { dst := some 4, op := Op.assign (Operand.tmp 47), type := 9, pos := "ref.go:148", after := #[{ on := 10, ground := Ground.data }, { on := 7, ground := Ground.chain }, { on := 0, ground := Ground.phase }, { on := 1, ground := Ground.phase }, { on := 2, ground := Ground.phase }, { on := 3, ground := Ground.phase }, { on := 4, ground := Ground.phase }, { on := 5, ground := Ground.phase }, { on := 6, ground := Ground.phase }, { on := 7, ground := Ground.phase }, { on := 8, ground := Ground.phase }, { on := 9, ground := Ground.phase }, { on := 10, ground := Ground.phase }], guard := none }) (v := ?_) rfl (by kernel_rfl) (by kernel_rfl) (by kernel_rfl) (fun _ _ _ h => h) (Or.inl ⟨by rfl, ?_⟩) hH2 ?_
          rotate_left
          · intro w' hw'
            obtain c5h := hw'
            go_simp
            try with_reducible rfl
          try simp only [Act.put, List.setIfInBounds_toArray, List.set_cons_zero, List.set_cons_succ]
          refine wpAnyH_done (by kernel_rfl) ?_ _
          refine NoPanic.normal ?_
          go_wp2_with fail
          go_roundw
          case rel => exact ⟨k + 1, _, hltH.out, rfl, by go_num, hSe2.out _ (by simp), Fr.out.trans (B9.out.mono Fr.out.size)⟩
          case measure => have := hltH.out; simp [RowKit.intOf]; omega
    · clear hos
      go_wp2_with (first | ((with_reducible refine at_load 45 ?_); refine wl_loadA 45 rfl hld ?_) | ((with_reducible refine at_alloc 45 ?_); refine wl_allocI H ?_; clear H; intro g w1 H q1 q2) | ((with_reducible refine at_store 45 ?_); refine wl_storeI 0 (q := ⟨2, s, (x : Int), (y : Int)⟩) H rfl rfl rfl ?_; clear H; intro w2 H; have c0 := H.cell 0 0 rfl (v := .int .i64 2) rfl; have c5 := H.cell 0 5 rfl (v := .int .i64 (x : Int)) rfl; have c6 := H.cell 0 6 rfl (v := .int .i64 (y : Int)) rfl))
      have hSe2 : Hid (∀ S', S' = S ++ bA ([115, 112, 108, 105, 116, 32] ++ itoa (x : Int) ++ [32] ++ itoa (y : Int) ++ [10]) → S' = bA (txtI (L.take (k + 1))) ∧ S'.size ≤ 40 * (k + 1)) := fun S' h => hnext.out S' (by rw [h, hSe.out, bA_add, line2])
      have lg := H.lti 0 rfl
      have HB := hide H.below
      clear H
      refine wp_region_noPanic ?_
      refine wp_region_held_drew (S := (fun w' => w'.cell? ⟨g, 5, none⟩ = some (.int .i64 (x : Int)) ∧ w'.cell? ⟨g, 6, none⟩ = some (.int .i64 (y : Int)))) (by kernel_rfl) ⟨c5, c6⟩ (fun hH0 => ?_)
      refine wpAnyH_take (i := 0) (oi := { dst := some 50, op := Op.move (Operand.tmp 4), type := 9, pos := "ref.go:150", after := #[], guard := none }) (v := ?_) rfl (by kernel_rfl) (by kernel_rfl) (by kernel_rfl) (fun _ _ _ h => h) (Or.inl ⟨by rfl, ?_⟩) hH0 ?_
      rotate_left
      · intro w' hw'
        obtain ⟨c5h, c6h⟩ := hw'
        go_simp
        try with_reducible rfl
      try simp only [Act.put, List.setIfInBounds_toArray, List.set_cons_zero, List.set_cons_succ]
      refine wpAnyH_take (i := 1) (oi := { dst := some 51, op := Op.fieldAddr 45 (Operand.tmp 6) 2, type := 0, pos := "ref.go:150", after := #[], guard := none }) (v := ?_) rfl (by kernel_rfl) (by kernel_rfl) (by kernel_rfl) (fun _ _ _ h => h) (Or.inl ⟨by rfl, ?_⟩) hH0 ?_
      rotate_left
      · intro w' hw'
        obtain ⟨c5h, c6h⟩ := hw'
        go_simp
        try with_reducible rfl
      try simp only [Act.put, List.setIfInBounds_toArray, List.set_cons_zero, List.set_cons_succ]
      refine wpAnyH_take (i := 2) (oi := { dst := some 52, op := Op.load 3 (Operand.tmp 51), type := 3, pos := "ref.go:150", after := #[{ on := 1, ground := Ground.data }], guard := none }) (v := ?_) rfl (by kernel_rfl) (by kernel_rfl) (by kernel_rfl) (fun _ _ _ h => h) (Or.inl ⟨by rfl, ?_⟩) hH0 ?_
      rotate_left
      · intro w' hw'
        obtain ⟨c5h, c6h⟩ := hw'
        go_simp
        try with_reducible rfl
      try simp only [Act.put, List.setIfInBounds_toArray, List.set_cons_zero, List.set_cons_succ]
      refine wpAnyH_take (i := 6) (oi := { dst := some 56, op := Op.fieldAddr 45 (Operand.tmp 6) 3, type := 0, pos := "ref.go:150", after := #[], guard := none }) (v := ?_) rfl (by kernel_rfl) (by kernel_rfl) (by kernel_rfl) (fun _ _ _ h => h) (Or.inl ⟨by rfl, ?_⟩) hH0 ?_
      rotate_left
      · intro w' hw'
        obtain ⟨c5h, c6h⟩ := hw'
        go_simp
        try with_reducible rfl
      try simp only [Act.put, List.setIfInBounds_toArray, List.set_cons_zero, List.set_cons_succ]
      refine wpAnyH_take (i := 7) (oi := { dst := some 57, op := Op.load 3 (Operand.tmp 56), type := 3, pos := "ref.go:150", after := #[{ on := 6, ground := Ground.data }], guard := none }) (v := ?_) rfl (by kernel_rfl) (by kernel_rfl) (by kernel_rfl) (fun _ _ _ h => h) (Or.inl ⟨by rfl, ?_⟩) hH0 ?_
      rotate_left
      · intro w' hw'
        obtain ⟨c5h, c6h⟩ := hw'
        go_simp
        try with_reducible rfl
      try simp only [Act.put, List.setIfInBounds_toArray, List.set_cons_zero, List.set_cons_succ]
      refine wpAnyH_ready (rs := [3]) (by kernel_rfl) (by simp) ?_
      refine AllReadyH.cons (o := { dst := some 53, op := Op.call { callee := Callee.value (Operand.func 33), args := #[Operand.tmp 52], argTypes := #[3] }, type := 9, pos := "ref.go:150", after := #[{ on := 2, ground := Ground.data }], guard := none }) rfl (fun K hK => ?_) AllReadyH.nil
      go_simp
      refine (ITx.out _).mono ?_
      rintro e w4 ⟨rfl, B4⟩
      have B4' : Below w2.heap.size w2 w4 := (Below.refl _ w2).drew.trans B4
      have c5b := (B4'.cell (p := ⟨g, 5, none⟩) lg).trans c5
      have c6b := (B4'.cell (p := ⟨g, 6, none⟩) lg).trans c6
      clear B4
      have l4 := B4'.size
      replace B4' := hide B4'
      refine hK.out _ _ ⟨c5b, c6b⟩ (fun hH1 => ?_)
      clear hK
      try simp only [Act.put, List.setIfInBounds_toArray, List.set_cons_zero, List.set_cons_succ]
      refine wpAnyH_take (i := 4) (oi := { dst := some 54, op := Op.binOp BinOp.add 9 (Operand.const (Value.string { data := #[115, 112, 108, 105, 116, 32] })) (Operand.tmp 53) 9, type := 9, pos := "ref.go:150", after := #[{ on := 3, ground := Ground.data }], guard := none }) (v := .string (bA ([115, 112, 108, 105, 116, 32] ++ itoa (x : Int)))) rfl (by kernel_rfl) (by kernel_rfl) (by kernel_rfl) (fun _ _ _ h => h) (Or.inl ⟨by rfl, fun w' hw' => run_add9 _ (bA ([115, 112, 108, 105, 116, 32])) (bA (itoa (x : Int))) _ rfl rfl (by rw [bA_size, bA_size]; simp only [List.length_cons, List.length_nil, List.length_append]; omega) (bA_add _ _) _⟩) hH1 ?_
      try simp only [Act.put, List.setIfInBounds_toArray, List.set_cons_zero, List.set_cons_succ]
      refine wpAnyH_take (i := 5) (oi := { dst := some 55, op := Op.binOp BinOp.add 9 (Operand.tmp 54) (Operand.const (Value.string { data := #[32] })) 9, type := 9, pos := "ref.go:150", after := #[{ on := 4, ground := Ground.data }], guard := none }) (v := .string (bA ([115, 112, 108, 105, 116, 32] ++ itoa (x : Int) ++ [32]))) rfl (by kernel_rfl) (by kernel_rfl) (by kernel_rfl) (fun _ _ _ h => h) (Or.inl ⟨by rfl, fun w' hw' => run_add9 _ (bA ([115, 112, 108, 105, 116, 32] ++ itoa (x : Int))) (bA ([32])) _ rfl rfl (by rw [bA_size, bA_size]; simp only [List.length_cons, List.length_nil, List.length_append]; omega) (bA_add _ _) _⟩) hH1 ?_
      try simp only [Act.put, List.setIfInBounds_toArray, List.set_cons_zero, List.set_cons_succ]
      refine wpAnyH_ready (rs := [8]) (by kernel_rfl) (by simp) ?_
      refine AllReadyH.cons (o := { dst := some 58, op := Op.call { callee := Callee.value (Operand.func 33), args := #[Operand.tmp 57], argTypes := #[3] }, type := 9, pos := "ref.go:150", after := #[{ on := 7, ground := Ground.data }, { on := 3, ground := Ground.chain }], guard := none }) rfl (fun K hK => ?_) AllReadyH.nil
      go_simp
      refine (ITy.out _).mono ?_
      rintro e w7 ⟨rfl, B7⟩
      have c5c := (B7.cell (p := ⟨g, 5, none⟩) (show g < w4.heap.size by omega)).trans c5b
      have c6c := (B7.cell (p := ⟨g, 6, none⟩) (show g < w4.heap.size by omega)).trans c6b
      have B9 := hide (HB.out.trans ((B4'.out.trans (B7.mono l4)).mono HB.out.size))
      clear B7
      refine hK.out _ _ ⟨c5c, c6c⟩ (fun hH2 => ?_)
      clear hK
      try simp only [Act.put, List.setIfInBounds_toArray, List.set_cons_zero, List.set_cons_succ]
      refine wpAnyH_take (i := 9) (oi := { dst := some 59, op := Op.binOp BinOp.add 9 (Operand.tmp 55) (Operand.tmp 58) 9, type := 9, pos := "ref.go:150", after := #[{ on := 5, ground := Ground.data }, { on := 8, ground := Ground.data }], guard := none }) (v := .string (bA ([115, 112, 108, 105, 116, 32] ++ itoa (x : Int) ++ [32] ++ itoa (y : Int)))) rfl (by kernel_rfl) (by kernel_rfl) (by kernel_rfl) (fun _ _ _ h => h) (Or.inl ⟨by rfl, fun w' hw' => run_add9 _ (bA ([115, 112, 108, 105, 116, 32] ++ itoa (x : Int) ++ [32])) (bA (itoa (y : Int))) _ rfl rfl (by rw [bA_size, bA_size]; simp only [List.length_cons, List.length_nil, List.length_append]; omega) (bA_add _ _) _⟩) hH2 ?_
      try simp only [Act.put, List.setIfInBounds_toArray, List.set_cons_zero, List.set_cons_succ]
      refine wpAnyH_take (i := 10) (oi := { dst := some 60, op := Op.binOp BinOp.add 9 (Operand.tmp 59) (Operand.const (Value.string { data := #[10] })) 9, type := 9, pos := "ref.go:150", after := #[{ on := 9, ground := Ground.data }], guard := none }) (v := .string (bA ([115, 112, 108, 105, 116, 32] ++ itoa (x : Int) ++ [32] ++ itoa (y : Int) ++ [10]))) rfl (by kernel_rfl) (by kernel_rfl) (by kernel_rfl) (fun _ _ _ h => h) (Or.inl ⟨by rfl, fun w' hw' => run_add9 _ (bA ([115, 112, 108, 105, 116, 32] ++ itoa (x : Int) ++ [32] ++ itoa (y : Int))) (bA ([10])) _ rfl rfl (by rw [bA_size, bA_size]; simp only [List.length_cons, List.length_nil, List.length_append]; omega) (bA_add _ _) _⟩) hH2 ?_
      try simp only [Act.put, List.setIfInBounds_toArray, List.set_cons_zero, List.set_cons_succ]
      refine wpAnyH_take (i := 11) (oi := { dst := some 61, op := Op.binOp BinOp.add 9 (Operand.tmp 50) (Operand.tmp 60) 9, type := 9, pos := "ref.go:150", after := #[{ on := 0, ground := Ground.data }, { on := 10, ground := Ground.data }], guard := none }) (v := .string (S ++ bA ([115, 112, 108, 105, 116, 32] ++ itoa (x : Int) ++ [32] ++ itoa (y : Int) ++ [10]))) rfl (by kernel_rfl) (by kernel_rfl) (by kernel_rfl) (fun _ _ _ h => h) (Or.inl ⟨by rfl, fun w' hw' => run_add9 _ S (bA ([115, 112, 108, 105, 116, 32] ++ itoa (x : Int) ++ [32] ++ itoa (y : Int) ++ [10])) _ rfl rfl (by rw [bA_size]; simp only [List.length_cons, List.length_nil, List.length_append]; omega) rfl _⟩) hH2 ?_
      try simp only [Act.put, List.setIfInBounds_toArray, List.set_cons_zero, List.set_cons_succ]
      refine wpAnyH_take (i := 12) (oi := { dst := some 4, op := Op.assign (Operand.tmp 61), type := 9, pos := "ref.go:150", after := #[{ on := 11, ground := Ground.data }, { on := 8, ground := Ground.chain }, { on := 0, ground := Ground.phase }, { on := 1, ground := Ground.phase }, { on := 2, ground := Ground.phase }, { on := 3, ground := Ground.phase }, { on := 4, ground := Ground.phase }, { on := 5, ground := Ground.phase }, { on := 6, ground := Ground.phase }, { on := 7, ground := Ground.phase }, { on := 8, ground := Ground.phase }, { on := 9, ground := Ground.phase }, { on := 10, ground := Ground.phase }, { on := 11, ground := Ground.phase }], guard := none }) (v := ?_) rfl (by kernel_rfl) (by kernel_rfl) (by kernel_rfl) (fun _ _ _ h => h) (Or.inl ⟨by rfl, ?_⟩) hH2 ?_
      rotate_left
      · intro w' hw'
        obtain ⟨c5h, c6h⟩ := hw'
        go_simp
        try with_reducible rfl
      try simp only [Act.put, List.setIfInBounds_toArray, List.set_cons_zero, List.set_cons_succ]
      refine wpAnyH_done (by kernel_rfl) ?_ _
      refine NoPanic.normal ?_
      go_wp2_with fail
      go_roundw
      case rel => exact ⟨k + 1, _, hltH.out, rfl, by go_num, hSe2.out _ (by simp), Fr.out.trans (B9.out.mono Fr.out.size)⟩
      case measure => have := hltH.out; simp [RowKit.intOf]; omega
    · clear hos
      have hSe2 : Hid (∀ S', S' = S ++ bA ([101, 110, 100, 10]) → S' = bA (txtI (L.take (k + 1))) ∧ S'.size ≤ 40 * (k + 1)) := fun S' h => hnext.out S' (by rw [h, hSe.out, bA_add, line3])
      go_wp2_with (first | ((with_reducible refine at_load 45 ?_); refine wl_loadA 45 rfl hld ?_) | ((with_reducible refine at_alloc 45 ?_); refine wl_allocI H ?_; clear H; intro g w1 H q1 q2) | ((with_reducible refine at_store 45 ?_); refine wl_storeI 0 (q := ⟨3, s, (x : Int), (y : Int)⟩) H rfl rfl rfl ?_; clear H; intro w2 H; have c0 := H.cell 0 0 rfl (v := .int .i64 3) rfl) | ((with_reducible refine at_add9 ?_); refine wl_val (run_add9 _ S (bA [101, 110, 100, 10]) _ rfl rfl (by rw [bA_size]; simp only [List.length_cons, List.length_nil, List.length_append]; omega) rfl _) ?_))
      go_roundw
      case rel => exact ⟨k + 1, _, hltH.out, rfl, by go_num, hSe2.out _ rfl, Fr.out.trans (H.below.mono Fr.out.size)⟩
      case measure => have := hltH.out; simp [RowKit.intOf]; omega
    · clear hos
      have hSe2 : Hid (∀ S', S' = S ++ bA ([106, 117, 109, 112, 32] ++ itoa (x : Int) ++ [10]) → S' = bA (txtI (L.take (k + 1))) ∧ S'.size ≤ 40 * (k + 1)) := fun S' h => hnext.out S' (by rw [h, hSe.out, bA_add, line4])
      go_wp2_with (first | ((with_reducible refine at_load 45 ?_); refine wl_loadA 45 rfl hld ?_) | ((with_reducible refine at_alloc 45 ?_); refine wl_allocI H ?_; clear H; intro g w1 H q1 q2) | ((with_reducible refine at_store 45 ?_); refine wl_storeI 0 (q := ⟨4, s, (x : Int), (y : Int)⟩) H rfl rfl rfl ?_; clear H; intro w2 H; have c0 := H.cell 0 0 rfl (v := .int .i64 4) rfl; have c5 := H.cell 0 5 rfl (v := .int .i64 (x : Int)) rfl; have c6 := H.cell 0 6 rfl (v := .int .i64 (y : Int)) rfl))
      refine (ITx.out _).mono ?_
      rintro e w4 ⟨rfl, B4⟩
      have B9 := hide (H.below.trans (B4.mono H.below.size))
      clear H B4
      go_wp2_with (first | ((with_reducible refine at_add9 ?_); refine wl_val (run_add9 _ (bA [106, 117, 109, 112, 32]) (bA (itoa (x : Int))) _ rfl rfl (by rw [bA_size, bA_size]; simp only [List.length_cons, List.length_nil, List.length_append]; omega) (bA_add _ _) _) ?_) | ((with_reducible refine at_add9 ?_); refine wl_val (run_add9 _ (bA ([106, 117, 109, 112, 32] ++ itoa (x : Int))) (bA [10]) _ rfl rfl (by rw [bA_size, bA_size]; simp only [List.length_cons, List.length_nil, List.length_append]; omega) (bA_add _ _) _) ?_) | ((with_reducible refine at_add9 ?_); refine wl_val (run_add9 _ S (bA ([106, 117, 109, 112, 32] ++ itoa (x : Int) ++ [10])) _ rfl rfl (by rw [bA_size]; simp only [List.length_cons, List.length_nil, List.length_append]; omega) rfl _) ?_))
      go_roundw
      case rel => exact ⟨k + 1, _, hltH.out, rfl, by go_num, hSe2.out _ (by simp), Fr.out.trans (B9.out.mono Fr.out.size)⟩
      case measure => have := hltH.out; simp [RowKit.intOf]; omega
end Go.Proofs.YtkgegjnkkbgghaaDoor
