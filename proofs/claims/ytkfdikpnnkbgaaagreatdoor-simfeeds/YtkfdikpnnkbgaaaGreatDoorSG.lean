/-
  Standing at an instruction, and at all to which it leads on: mathematics; a law for loops.
-/
import Derived.Test.YtkfdikpnnkbgaaaGreatDoorSB
import Derived.Test.YtkfdikpnnkbgaaaGreatDoorSE
namespace Go.Proofs.YtkfdikpnnkbgaaaGreatDoor
open Go.RowKit
set_option linter.unusedVariables false
set_option linter.unusedSimpArgs false

/-- A set of words as a set of numbers. -/
def snW (W : List Nat) : Sn := fun m => inW W m = true
theorem countP_upd {p p' : Nat → Bool} {n : Nat} (h : p n = false) (h' : ∀ m, p' m = (decide (m = n) || p m)) : ∀ N, (List.range N).countP p' = (List.range N).countP p + if n < N then 1 else 0
  | 0 => by simp
  | N + 1 => by
    rw [List.range_succ, List.countP_append, List.countP_append, countP_upd h h' N, List.countP_singleton, List.countP_singleton, h' N]
    by_cases e : N = n
    · subst e; simp [h]
    · have e2 : (decide (N = n) || p N) = p N := by simp [e]
      rw [e2]
      by_cases hn : n < N
      · have : n < N + 1 := by omega
        simp [hn, this]; omega
      · have : ¬ n < N + 1 := by omega
        simp [hn, this]
def cW (W : List Nat) : Nat := (List.range 2048).countP (inW W)
theorem cW_le (W : List Nat) : cW W ≤ 2048 := by
  have := List.countP_le_length (p := inW W) (l := List.range 2048)
  simpa [cW] using this
theorem cW_add {W : List Nat} (h : OkW W) {n : Nat} (hn : n < 2048) (hi : inW W n = false) : cW (addW W n) = cW W + 1 := by
  unfold cW
  rw [countP_upd hi (fun m => inW_add h hn m), if_pos hn]
theorem onw_mem {L : List Ins} {i : Nat} {q : Ins} (h : L[i]? = some q) {z : Nat} (hz : z ∈ onw q) {num : Nat} (e : Eps L num i) : Eps L num z := by
  unfold onw at hz
  split at hz
  · rename_i h2
    rcases List.mem_cons.1 hz with rfl | hz
    · exact e.goX h (.inl h2)
    · rw [List.mem_singleton.1 hz]; exact e.goY h h2
  · split at hz
    · rename_i h4
      rw [List.mem_singleton.1 hz]; exact e.goX h (.inr h4)
    · cases hz
theorem onw_len (q : Ins) : (onw q).length ≤ 2 := by unfold onw; split <;> (try split) <;> simp
theorem clsd_onw {L : List Ins} {S : Sn} (h : ∀ i q, S i → L[i]? = some q → ∀ z ∈ onw q, S z) : Clsd L S := fun i q hi hq => by
  have := h i q hi hq
  unfold onw at this
  refine ⟨fun ho => ?_, fun ho => ?_⟩
  · rcases ho with ho | ho
    · rw [if_pos ho] at this; exact this _ (by simp)
    · rw [if_neg (by omega), if_pos ho] at this; exact this _ (by simp)
  · rw [if_pos ho] at this; exact this _ (by simp)
theorem onw_clsd {L : List Ins} {S : Sn} (h : Clsd L S) {i : Nat} {q : Ins} (hi : S i) (hq : L[i]? = some q) : ∀ z ∈ onw q, S z := fun z hz => by
  have := h i q hi hq
  unfold onw at hz
  split at hz
  · rename_i h2
    rcases List.mem_cons.1 hz with rfl | hz
    · exact this.1 (.inl h2)
    · rw [List.mem_singleton.1 hz]; exact this.2 h2
  · split at hz
    · rename_i h4
      rw [List.mem_singleton.1 hz]; exact this.1 (.inr h4)
    · cases hz
/-- Where an instruction leads to is in the program. -/
def GoL (L : List Ins) : Prop := ∀ q ∈ L, ((q.op = 2 ∨ q.op = 4 ∨ q.op = 1) → 0 ≤ q.x ∧ q.x < (L.length : Int)) ∧ (q.op = 2 → 0 ≤ q.y ∧ q.y < (L.length : Int))
theorem GoL.onw {L : List Ins} (h : GoL L) {i : Nat} {q : Ins} (hq : L[i]? = some q) : ∀ z ∈ onw q, z < L.length := fun z hz => by
  have := h q (List.mem_of_getElem? hq)
  unfold Go.Proofs.YtkfdikpnnkbgaaaGreatDoor.onw at hz
  split at hz
  · rename_i h2
    rcases List.mem_cons.1 hz with rfl | hz
    · have := this.1 (.inl h2); omega
    · rw [List.mem_singleton.1 hz]; have := this.2 h2; omega
  · split at hz
    · rename_i h4
      rw [List.mem_singleton.1 hz]; have := this.1 (.inr (.inl h4)); omega
    · cases hz
/-- Between two steps: W stands, q is left to do. -/
structure SdI (L : List Ins) (W0 W : List Nat) (q : List Nat) (num : Nat) : Prop where
  ok : OkW W
  qlt : ∀ z ∈ q, z < L.length ∧ Eps L num z
  mono : ∀ m, inW W0 m = true → inW W m = true
  sound : ∀ m, inW W m = true → inW W0 m = true ∨ Eps L num m
  nm : num ∈ q ∨ inW W num = true
  cl : ∀ i x, inW W i = true → ¬ inW W0 i = true → L[i]? = some x → ∀ z ∈ onw x, z ∈ q ∨ inW W z = true
  cnt : q.length ≤ 1 + 2 * cW W
theorem SdI.start {L : List Ins} {W0 : List Nat} (h : OkW W0) {num : Nat} (hn : num < L.length) : SdI L W0 W0 [num] num :=
  ⟨h, fun z hz => by rw [List.mem_singleton.1 hz]; exact ⟨hn, .refl _⟩, fun _ h => h, fun _ h => .inl h, .inl (by simp), fun i x h1 h2 => (h2 h1).elim, by simp⟩
theorem SdI.old {L : List Ins} {W0 W : List Nat} {q : List Nat} {z num : Nat} (h : SdI L W0 W (q ++ [z]) num) (hz : inW W z = true) : SdI L W0 W q num := by
  have sub : ∀ m, m ∈ q ++ [z] ∨ inW W m = true → m ∈ q ∨ inW W m = true := fun m hm => by
    rcases hm with hm | hm
    · rcases List.mem_append.1 hm with hm | hm
      · exact .inl hm
      · rw [List.mem_singleton.1 hm]; exact .inr hz
    · exact .inr hm
  refine ⟨h.ok, fun y hy => h.qlt y (by simp [hy]), h.mono, h.sound, sub _ h.nm, fun i x h1 h2 h3 y hy => sub _ (h.cl i x h1 h2 h3 y hy), ?_⟩
  have := h.cnt
  simp at this
  omega
theorem SdI.new {L : List Ins} {W0 W : List Nat} {q : List Nat} {z num : Nat} {x : Ins} (h : SdI L W0 W (q ++ [z]) num) (hz : inW W z = false) (hl : L.length ≤ 2048) (hg : GoL L) (hx : L[z]? = some x) : SdI L W0 (addW W z) (q ++ onw x) num := by
  have hz1 := h.qlt z (by simp)
  have hz2 : z < 2048 := by omega
  have hin := inW_add h.ok hz2
  have hc := cW_add h.ok hz2 hz
  have sub : ∀ m, m ∈ q ++ [z] ∨ inW W m = true → m ∈ q ++ onw x ∨ inW (addW W z) m = true := fun m hm => by
    rcases hm with hm | hm
    · rcases List.mem_append.1 hm with hm | hm
      · exact .inl (by simp [hm])
      · rw [List.mem_singleton.1 hm]; right; rw [hin]; simp
    · right; rw [hin, hm]; simp
  refine ⟨h.ok.add hz2, fun y hy => ?_, fun m hm => by rw [hin, h.mono m hm]; simp, fun m hm => ?_, sub _ h.nm, fun i y h1 h2 h3 u hu => ?_, ?_⟩
  · rcases List.mem_append.1 hy with hy | hy
    · exact h.qlt y (by simp [hy])
    · exact ⟨hg.onw hx y hy, onw_mem hx hy hz1.2⟩
  · rw [hin] at hm
    by_cases e : m = z
    · subst e; exact .inr hz1.2
    · simp [e] at hm; exact h.sound m hm
  · by_cases e : i = z
    · subst e
      rw [hx] at h3; cases h3
      exact .inl (by simp [hu])
    · rw [hin] at h1
      simp [e] at h1
      exact sub _ (h.cl i y h1 h2 h3 u hu)
  · have h1 := h.cnt
    have h2 := onw_len x
    simp at h1 ⊢
    omega
theorem SdI.fin {L : List Ins} {W0 W : List Nat} {num : Nat} (h : SdI L W0 W [] num) (hc : Clsd L (snW W0)) (m : Nat) : inW W m = true ↔ inW W0 m = true ∨ Eps L num m := by
  have hn : inW W num = true := by rcases h.nm with h | h; cases h; exact h
  have hW : Clsd L (snW W) := clsd_onw (fun i q hi hq z hz => by
    by_cases h0 : inW W0 i = true
    · exact h.mono _ (onw_clsd hc h0 hq z hz)
    · rcases h.cl i q hi h0 hq z hz with h | h
      · cases h
      · exact h)
  exact ⟨h.sound m, fun hm => by
    rcases hm with hm | hm
    · exact h.mono m hm
    · exact hW.eps hn hm⟩
theorem SdI.room {L : List Ins} {W0 W : List Nat} {q : List Nat} {num : Nat} (h : SdI L W0 W q num) : q.length ≤ 4097 := by
  have := h.cnt
  have := cW_le W
  omega
/-- How much is left to do. -/
def msr (W : List Nat) (q : List Nat) : Nat := 3 * (2048 - cW W) + q.length
theorem msr_old (W : List Nat) (q : List Nat) (z : Nat) : msr W q < msr W (q ++ [z]) := by unfold msr; simp
theorem msr_new {W : List Nat} (h : OkW W) {z : Nat} (hz : z < 2048) (hi : inW W z = false) (q : List Nat) (x : Ins) : msr (addW W z) (q ++ onw x) < msr W (q ++ [z]) := by
  have h1 := cW_add h hz hi
  have h2 := cW_le (addW W z)
  have h3 := onw_len x
  unfold msr
  simp
  omega
/-- A loop whose invariant tells how much is left to do. -/
theorem wpIn_loopM {F : Fence} {n : Nat} {P : Program} {Q : Exit → Act → World → Prop} {a : Act} {w : World} {c : Code} (I : Nat → Act → World → Prop) {m0 : Nat} (h0 : I m0 a w)
    (round : ∀ m a w, I m a w → c.wpIn F n P (Exit.then (fun a' w' => ∃ m', m' < m ∧ I m' a' w') Q) a w) : (Code.loop c).wpIn F n P Q a w := by
  classical
  have lst : ∀ (p : Nat → Prop), (∃ m, p m) → ∃ m, p m ∧ ∀ k, p k → m ≤ k := fun p hp => by
    obtain ⟨m, hm⟩ := hp
    induction m using Nat.strongRecOn with
    | _ m ih =>
      by_cases h : ∃ k, k < m ∧ p k
      · obtain ⟨k, h1, h2⟩ := h; exact ih k h1 h2
      · exact ⟨m, hm, fun k hk => by
          rcases Nat.lt_or_ge k m with h1 | h1
          · exact (h ⟨k, h1, hk⟩).elim
          · exact h1⟩
  let μ : Act → World → Nat := fun a w => if h : ∃ m, I m a w then (lst _ h).choose else 0
  have hμ : ∀ a w (h : ∃ m, I m a w), I (μ a w) a w ∧ ∀ k, I k a w → μ a w ≤ k := fun a w h => by
    have e : μ a w = (lst _ h).choose := dif_pos h
    rw [e]
    exact (lst _ h).choose_spec
  refine wpIn_loop (fun a w => ∃ m, I m a w) μ ⟨m0, h0⟩ (fun a w hI => ?_)
  refine Code.wpIn_mono ?_ (round (μ a w) a w (hμ a w hI).1)
  intro e a' w' h
  cases e with
  | normal =>
    obtain ⟨m', h1, h2⟩ := h
    exact ⟨⟨m', h2⟩, Nat.lt_of_le_of_lt ((hμ a' w' ⟨m', h2⟩).2 m' h2) h1⟩
  | _ => exact h
/-- Marks that a function leaves with. -/
def marks (ds : List Nat) : List Deferred := ds.map (fun D => { target := .collected D, args := #[] })
theorem leaves_marks {F : Fence} {n : Nat} {P : Program} {fn : Func} {tmps : Array Value} {R : Ending → World → Prop} : ∀ (ds : List Nat) (w : World), ds.Nodup → (∀ D ∈ ds, w.heap[D]? = some (.deferred (some []))) →
    (∀ w' : World, w.heap.size ≤ w'.heap.size → w'.os = w.os → w'.tape = w.tape → w'.output = w.output → (∀ k, k ∉ ds → w'.heap[k]? = w.heap[k]?) → LeavesInM F n P fn tmps R [] .returning w') → LeavesInM F n P fn tmps R (marks ds) .returning w
  | [], w, _, _, h => h w (Nat.le_refl _) rfl rfl rfl (fun _ _ => rfl)
  | D :: ds, w, hn, hd, h => by
    obtain ⟨h1, h2⟩ := List.nodup_cons.1 hn
    have hD := hd D (by simp)
    refine ⟨by simp, .inl ⟨D, _, rfl, run_takeDeferred hD, leaves_marks ds _ h2 (fun E hE => ?_) (fun w' s1 s2 s3 s4 s5 => h w' (by simpa [World.putObj] using s1) s2 s3 s4 (fun k hk => ?_))⟩⟩
    · rw [World.putObj_heap_other (fun e => h1 (by rw [← e]; exact hE))]
      exact hd E (by simp [hE])
    · have : k ∉ ds ∧ k ≠ D := by simp at hk; exact ⟨hk.2, hk.1⟩
      rw [s5 k this.1, World.putObj_heap_other this.2]
end Go.Proofs.YtkfdikpnnkbgaaaGreatDoor
