/-
  What is left of a path behind some steps: plain lemmas on lists of bytes.
-/
import Derived.Test.YtocpbcghkphcgaaPathGetD
import Derived.Test.YtocpbcghkphcgaaStepRow
namespace Go.Proofs.Ytocpbcghkphcgaa.Hub
set_option linter.unusedVariables false
set_option linter.unusedSimpArgs false

/-- So many steps from one on. -/
def restL (D : Nat → Bool) (N A T : Nat → ByteArray) : Nat → Nat → List UInt8
  | _, 0 => []
  | k, m + 1 => stepL k (D k) (N k) (A k) (T k) ++ restL D N A T (k + 1) m
/-- The same, the stroke ahead of the first left out where there is one alone. -/
def restZ (D : Nat → Bool) (N A T : Nat → ByteArray) : Nat → Nat → List UInt8
  | _, 0 => []
  | k, m + 1 => stepL 0 (D k) (N k) (A k) (T k) ++ restL D N A T (k + 1) m
theorem rest_all (D : Nat → Bool) (N A T : Nat → ByteArray) : ∀ m k, putL D N A T (k + m) = putL D N A T k ++ restL D N A T k m
  | 0, k => by simp [restL]
  | m + 1, k => by
    rw [show k + (m + 1) = (k + 1) + m by omega, rest_all D N A T m (k + 1), putL, restL, List.append_assoc]
theorem rest_zero (D : Nat → Bool) (N A T : Nat → ByteArray) (n : Nat) : putL D N A T n = restL D N A T 0 n := by
  have := rest_all D N A T n 0
  rw [Nat.zero_add] at this
  rw [this]; rfl
theorem rest_zero' (D : Nat → Bool) (N A T : Nat → ByteArray) (n : Nat) : putL D N A T n = restZ D N A T 0 n := by
  rw [rest_zero]
  cases n <;> rfl
theorem rest_end (D : Nat → Bool) (N A T : Nat → ByteArray) (k m : Nat) (hk : 0 < k) : StepEnd (restL D N A T k m) := by
  cases m with
  | zero => exact .inl rfl
  | succ m =>
    refine .inr ?_
    rw [restL, stepL_parts]
    unfold headL
    cases D k
    · rw [if_neg (by decide), if_pos hk]; exact ⟨_, rfl⟩
    · rw [if_pos rfl]; exact ⟨_, rfl⟩
theorem steps_one {N A T : Nat → ByteArray} {n : Nat} (h : stepsT N A T n = true) {j : Nat} (hj : j < n) : stepT (N j) (A j) (T j) = true := by
  unfold stepsT at h
  rw [List.all_eq_true] at h
  exact h j (List.mem_range.2 hj)
theorem stepL_ne {i : Nat} {d : Bool} {n a t : ByteArray} (h : stepT n a t = true) : 1 ≤ (stepL i d n a t).length := by
  have h1 := (step_name h).2
  rw [stepL_parts, List.length_append, List.length_append]
  cases hc : n.data.toList with
  | nil => exact absurd hc h1
  | cons c q => simp; omega
/-- A stroke that stands alone is left out. -/
def stripL : List UInt8 → List UInt8
  | 47 :: c :: q => if c = 47 then 47 :: c :: q else c :: q
  | l => l
theorem strip_one (c : UInt8) (q : List UInt8) (h : c ≠ 47) : stripL (47 :: c :: q) = c :: q := by simp [stripL, h]
theorem strip_two (q : List UInt8) : stripL (47 :: 47 :: q) = 47 :: 47 :: q := by simp [stripL]
theorem strip_rest {D : Nat → Bool} {N A T : Nat → ByteArray} {k m : Nat} (hk : 0 < k) (h : ∀ j, k ≤ j → j < k + m → stepT (N j) (A j) (T j) = true) : stripL (restL D N A T k m) = restZ D N A T k m := by
  cases m with
  | zero => rfl
  | succ m =>
    have h1 := step_name (h k (Nat.le_refl _) (by omega))
    rw [restL, restZ, stepL_parts, stepL_parts]
    unfold headL
    cases D k
    · rw [if_neg (by decide), if_pos hk, if_neg (by decide), if_neg (by omega)]
      cases hc : (N k).data.toList with
      | nil => exact absurd hc h1.2
      | cons c q =>
        have hc2 := (nm_ne (h1.1 c (by rw [hc]; simp))).1
        exact strip_one c _ hc2
    · rw [if_pos rfl, if_pos rfl]
      exact strip_two _
/-- What stands before a path's bytes: the first steps of each way to write the text are those. -/
def Agree (D D9 : Nat → Bool) (N A T N9 A9 T9 : Nat → ByteArray) (k : Nat) : Prop := ∀ j, j < k → D j = D9 j ∧ N j = N9 j ∧ A j = A9 j ∧ T j = T9 j
theorem Agree.snoc {D D9 : Nat → Bool} {N A T N9 A9 T9 : Nat → ByteArray} {k : Nat} (h : Agree D D9 N A T N9 A9 T9 k) {d : Bool} {n a t : ByteArray} (e : d = D9 k ∧ n = N9 k ∧ a = A9 k ∧ t = T9 k) : Agree (atN k d D) D9 (atN k n N) (atN k a A) (atN k t T) N9 A9 T9 (k + 1) := by
  intro j hj
  by_cases hjk : j = k
  · subst hjk
    rw [atN_same, atN_same, atN_same, atN_same]
    exact e
  · have hl : j < k := by omega
    rw [atN_ne _ _ hl, atN_ne _ _ hl, atN_ne _ _ hl, atN_ne _ _ hl]
    exact h j hl
/-- What holds between two steps, as the model reads. -/
def InvS (s r : List UInt8) (k : Nat) (D : Nat → Bool) (N A T : Nat → ByteArray) : Prop := ∀ (n9 : Nat) (D9 : Nat → Bool) (N9 A9 T9 : Nat → ByteArray), pathT N9 A9 T9 n9 = true → putL D9 N9 A9 T9 n9 = s → k ≤ n9 ∧ Agree D D9 N A T N9 A9 T9 k ∧ r = restZ D9 N9 A9 T9 k (n9 - k)
/-- What holds between two steps, as the program reads. -/
def InvI (s r : List UInt8) (k : Nat) (D : Nat → Bool) (N A T : Nat → ByteArray) : Prop := ∀ (n9 : Nat) (D9 : Nat → Bool) (N9 A9 T9 : Nat → ByteArray), pathT N9 A9 T9 n9 = true → putL D9 N9 A9 T9 n9 = s → k ≤ n9 ∧ Agree D D9 N A T N9 A9 T9 k ∧ r = restL D9 N9 A9 T9 k (n9 - k)
theorem path_steps {N A T : Nat → ByteArray} {n : Nat} (h : pathT N A T n = true) : stepsT N A T n = true := by
  unfold pathT at h
  rw [Bool.and_eq_true] at h
  exact h.2
theorem invS_start (s : List UInt8) (D : Nat → Bool) (N A T : Nat → ByteArray) : InvS s s 0 D N A T := fun n9 D9 N9 A9 T9 _ hs => ⟨Nat.zero_le _, fun j hj => absurd hj (by omega), by rw [← hs, rest_zero', Nat.sub_zero]⟩
theorem invI_start (s : List UInt8) (D : Nat → Bool) (N A T : Nat → ByteArray) : InvI s s 0 D N A T := fun n9 D9 N9 A9 T9 _ hs => ⟨Nat.zero_le _, fun j hj => absurd hj (by omega), by rw [← hs, rest_zero, Nat.sub_zero]⟩
theorem invS_next {s r r2 : List UInt8} {k m : Nat} {D : Nat → Bool} {N A T : Nat → ByteArray} {d : Bool} {n a t : ByteArray} (h : InvS s r k D N A T) (hr : r ≠ []) (hsay : SaysS r d n a t m) (h2 : r2 = stripL (r.drop m)) : InvS s r2 (k + 1) (atN k d D) (atN k n N) (atN k a A) (atN k t T) := by
  intro n9 D9 N9 A9 T9 hp hs
  obtain ⟨h1, hag, hrr⟩ := h n9 D9 N9 A9 T9 hp hs
  have hst := path_steps hp
  obtain ⟨m9, hm9⟩ : ∃ m9, n9 - k = m9 := ⟨_, rfl⟩
  rw [hm9] at hrr
  cases m9 with
  | zero => exact absurd hrr hr
  | succ m9 =>
    have hk : k < n9 := by omega
    have hone := steps_one hst hk
    obtain ⟨e1, e2, e3, e4, e5⟩ := hsay _ _ _ _ _ hone (rest_end D9 N9 A9 T9 (k + 1) m9 (by omega)) hrr
    refine ⟨by omega, hag.snoc ⟨e1, e2, e3, e4⟩, ?_⟩
    rw [h2, hrr, e5]
    show stripL ((stepL 0 (D9 k) (N9 k) (A9 k) (T9 k) ++ restL D9 N9 A9 T9 (k + 1) m9).drop _) = _
    rw [List.drop_left]
    have e6 : n9 - (k + 1) = m9 := by omega
    rw [e6]
    exact strip_rest (by omega) (fun j hj1 hj2 => steps_one hst (by omega))
theorem invS_some {s r : List UInt8} {k m : Nat} {D : Nat → Bool} {N A T : Nat → ByteArray} {d : Bool} {n a t : ByteArray} (h : InvS s r k D N A T) (hr : r ≠ []) (hsay : SaysS r d n a t m) (hm : m = 0) : ∀ (n9 : Nat) (D9 : Nat → Bool) (N9 A9 T9 : Nat → ByteArray), pathT N9 A9 T9 n9 = true → putL D9 N9 A9 T9 n9 ≠ s := by
  intro n9 D9 N9 A9 T9 hp hs
  obtain ⟨h1, hag, hrr⟩ := h n9 D9 N9 A9 T9 hp hs
  have hst := path_steps hp
  obtain ⟨m9, hm9⟩ : ∃ m9, n9 - k = m9 := ⟨_, rfl⟩
  rw [hm9] at hrr
  cases m9 with
  | zero => exact absurd hrr hr
  | succ m9 =>
    have hk : k < n9 := by omega
    have hone := steps_one hst hk
    obtain ⟨e1, e2, e3, e4, e5⟩ := hsay _ _ _ _ _ hone (rest_end D9 N9 A9 T9 (k + 1) m9 (by omega)) hrr
    have := stepL_ne (i := 0) (d := D9 k) hone
    omega
/-- The path that a text is, if it is one: any way to write it is this. -/
def Sole (s : List UInt8) (n : Nat) (D : Nat → Bool) (N A T : Nat → ByteArray) : Prop := ∀ (n9 : Nat) (D9 : Nat → Bool) (N9 A9 T9 : Nat → ByteArray), pathT N9 A9 T9 n9 = true → putL D9 N9 A9 T9 n9 = s → n = n9 ∧ Agree D D9 N A T N9 A9 T9 n
theorem rest_nil {D : Nat → Bool} {N A T : Nat → ByteArray} {k m : Nat} (h : ∀ j, k ≤ j → j < k + m → stepT (N j) (A j) (T j) = true) (e : restL D N A T k m = []) : m = 0 := by
  cases m with
  | zero => rfl
  | succ m =>
    have h1 := stepL_ne (i := k) (d := D k) (h k (Nat.le_refl _) (by omega))
    rw [restL] at e
    have h2 := (List.append_eq_nil_iff.1 e).1
    rw [h2] at h1
    simp at h1
theorem restZ_nil {D : Nat → Bool} {N A T : Nat → ByteArray} {k m : Nat} (h : ∀ j, k ≤ j → j < k + m → stepT (N j) (A j) (T j) = true) (e : restZ D N A T k m = []) : m = 0 := by
  cases m with
  | zero => rfl
  | succ m =>
    have h1 := stepL_ne (i := 0) (d := D k) (h k (Nat.le_refl _) (by omega))
    rw [restZ] at e
    have h2 := (List.append_eq_nil_iff.1 e).1
    rw [h2] at h1
    simp at h1
theorem invS_end {s : List UInt8} {k : Nat} {D : Nat → Bool} {N A T : Nat → ByteArray} (h : InvS s [] k D N A T) : Sole s k D N A T := by
  intro n9 D9 N9 A9 T9 hp hs
  obtain ⟨h1, hag, hrr⟩ := h n9 D9 N9 A9 T9 hp hs
  have := restZ_nil (fun j hj1 hj2 => steps_one (path_steps hp) (by omega)) hrr.symm
  exact ⟨by omega, hag⟩
theorem invI_end {s : List UInt8} {k : Nat} {D : Nat → Bool} {N A T : Nat → ByteArray} (h : InvI s [] k D N A T) : Sole s k D N A T := by
  intro n9 D9 N9 A9 T9 hp hs
  obtain ⟨h1, hag, hrr⟩ := h n9 D9 N9 A9 T9 hp hs
  have := rest_nil (fun j hj1 hj2 => steps_one (path_steps hp) (by omega)) hrr.symm
  exact ⟨by omega, hag⟩
/-- What the program says of the step with which a text begins. -/
def SaysI (l : List UInt8) (d : Bool) (n a t : ByteArray) (b : List UInt8) : Prop := ∀ (i : Nat) (d9 : Bool) (n9 a9 t9 : ByteArray) (r9 : List UInt8), stepT n9 a9 t9 = true → StepEnd r9 → l = stepL i d9 n9 a9 t9 ++ r9 → (∀ c ∈ l, c.toNat < 128) → d = d9 ∧ n = n9 ∧ a = a9 ∧ t = t9 ∧ b = r9
theorem step_low {i : Nat} {d : Bool} {n a t : ByteArray} (h : stepT n a t = true) : ∀ c ∈ stepL i d n a t, c.toNat < 128 := by
  intro c hc
  rw [stepL_parts] at hc
  rcases List.mem_append.1 hc with hc | hc
  · unfold headL at hc
    split at hc
    · simp at hc; subst hc; decide
    · split at hc
      · simp at hc; subst hc; decide
      · cases hc
  · rcases List.mem_append.1 hc with hc | hc
    · exact nm_small ((step_name h).1 c hc)
    · unfold tailL at hc
      split at hc
      · cases hc
      · rename_i ha
        rcases List.mem_cons.1 hc with hc | hc
        · subst hc; decide
        · rcases List.mem_append.1 hc with hc | hc
          · exact nm_small ((step_attr h ha).1 c hc)
          · rcases List.mem_append.1 hc with hc | hc
            · simp at hc; rcases hc with rfl | rfl <;> decide
            · rcases List.mem_append.1 hc with hc | hc
              · exact val_small ((step_attr h ha).2 c hc)
              · simp at hc; rcases hc with rfl | rfl <;> decide
theorem rest_low {D : Nat → Bool} {N A T : Nat → ByteArray} : ∀ {m k : Nat}, (∀ j, k ≤ j → j < k + m → stepT (N j) (A j) (T j) = true) → ∀ c ∈ restL D N A T k m, c.toNat < 128
  | 0, k, _, c, hc => by cases hc
  | m + 1, k, h, c, hc => by
    rw [restL] at hc
    rcases List.mem_append.1 hc with hc | hc
    · exact step_low (h k (Nat.le_refl _) (by omega)) c hc
    · exact rest_low (fun j hj1 hj2 => h j (by omega) (by omega)) c hc
theorem invI_next {s r r2 : List UInt8} {k : Nat} {D : Nat → Bool} {N A T : Nat → ByteArray} {d : Bool} {n a t : ByteArray} (h : InvI s r k D N A T) (hr : r ≠ []) (hsay : SaysI r d n a t r2) : InvI s r2 (k + 1) (atN k d D) (atN k n N) (atN k a A) (atN k t T) := by
  intro n9 D9 N9 A9 T9 hp hs
  obtain ⟨h1, hag, hrr⟩ := h n9 D9 N9 A9 T9 hp hs
  have hst := path_steps hp
  obtain ⟨m9, hm9⟩ : ∃ m9, n9 - k = m9 := ⟨_, rfl⟩
  rw [hm9] at hrr
  have hlow := rest_low (D := D9) (m := m9) (k := k) (fun j hj1 hj2 => steps_one hst (show j < n9 by omega))
  rw [← hrr] at hlow
  cases m9 with
  | zero => exact absurd hrr hr
  | succ m9 =>
    have hk : k < n9 := by omega
    have hone := steps_one hst hk
    obtain ⟨e1, e2, e3, e4, e5⟩ := hsay k _ _ _ _ _ hone (rest_end D9 N9 A9 T9 (k + 1) m9 (by omega)) hrr hlow
    refine ⟨by omega, hag.snoc ⟨e1, e2, e3, e4⟩, ?_⟩
    rw [e5]
    have e6 : n9 - (k + 1) = m9 := by omega
    rw [e6]
end Go.Proofs.Ytocpbcghkphcgaa.Hub
