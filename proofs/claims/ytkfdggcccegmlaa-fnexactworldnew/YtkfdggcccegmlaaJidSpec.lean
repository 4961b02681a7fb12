/-
  The model's l4Host and l4Nick: at every text of at most 2^40 bytes they answer hostT and nickT.
-/
import Derived.Test.YtkfdggcccegmlaaJidUser
import Derived.Test.YtkfdggcccegmlaaJidCut
namespace Go.Proofs.Ytkfdggcccegmlaa.Hub
open Go.RowKit
set_option linter.unusedVariables false

/-- A byte of a part of a host may stand where it does. -/
def okAt (P : ByteArray) (j : Nat) (h : j < P.size) : Prop := smallB (P[j].toNat : Int) = true ∨ ((P[j].toNat : Int) = 45 ∧ j ≠ 0 ∧ j ≠ P.size - 1)
theorem small_not45 : smallB 45 = false := by decide
theorem hostB_split (c : Int) : hostB c = true ↔ smallB c = true ∨ c = 45 := by
  unfold hostB smallB
  simp only [decide_eq_true_eq]
  omega
theorem hpart_iff (P : ByteArray) : hpartT P = true ↔ 1 ≤ P.size ∧ ∀ (j : Nat) (h : j < P.size), okAt P j h := by
  unfold hpartT
  have hl : P.data.toList.length = P.size := rfl
  by_cases h0 : 1 ≤ P.size
  · rw [decide_eq_true h0, edge_cases 45 P (by omega)]
    simp only [Bool.true_and, Bool.and_eq_true, decide_eq_true_eq, eachB, List.all_eq_true]
    constructor
    · rintro ⟨ha, hb, hc⟩
      refine ⟨h0, fun j h => ?_⟩
      have hj := ha (P[j]) (by show P.data.toList[j]'(by omega) ∈ _; exact List.getElem_mem _)
      rcases (hostB_split _).1 hj with h1 | h1
      · exact .inl h1
      · refine .inr ⟨h1, ?_, ?_⟩
        · rintro rfl; omega
        · rintro rfl; omega
    · rintro ⟨_, ha⟩
      refine ⟨fun b hb => ?_, ?_, ?_⟩
      · obtain ⟨j, hj, rfl⟩ := List.getElem_of_mem hb
        have := ha j (by omega)
        rcases this with h1 | ⟨h1, _⟩
        · exact (hostB_split _).2 (.inl h1)
        · exact (hostB_split _).2 (.inr h1)
      · intro e
        rcases ha 0 (by omega) with h1 | ⟨_, h1, _⟩
        · rw [e] at h1; exact absurd h1 (by decide)
        · exact h1 rfl
      · intro e
        rcases ha (P.size - 1) (by omega) with h1 | ⟨_, _, h1⟩
        · rw [e] at h1; exact absurd h1 (by decide)
        · exact h1 rfl
  · rw [decide_eq_false h0]
    simp only [Bool.false_and]
    constructor
    · intro h; cases h
    · rintro ⟨h, _⟩; exact absurd h h0
theorem hpart_no (P : ByteArray) (j : Nat) (h : j < P.size) (hn : ¬ okAt P j h) : hpartT P = false := by
  cases hp : hpartT P
  · rfl
  · exact absurd (((hpart_iff P).1 hp).2 j h) hn
theorem cutL_part (c : UInt8) : ∀ (m : Nat) (l p : List UInt8), p ∈ cutL c m l → p.length ≤ l.length
  | _, [], p, h => by simp [cutL] at h; simp [h]
  | 0, x :: xs, p, h => by rw [cutL_zero] at h; simp at h; simp [h]
  | m + 1, x :: xs, p, h => by
    rw [cutL_cons] at h
    split at h
    · rcases List.mem_cons.1 h with rfl | h
      · simp
      · have := cutL_part c m xs p h; simp; omega
    · cases hq : cutL c (m + 1) xs with
      | nil => exact absurd hq (cutL_ne _ _ _)
      | cons q qs =>
        rw [hq] at h
        simp only [consTo] at h
        rcases List.mem_cons.1 h with rfl | h
        · have := cutL_part c (m + 1) xs q (by rw [hq]; simp)
          simp; omega
        · have := cutL_part c (m + 1) xs p (by rw [hq]; simp [h])
          simp; omega
/-- All but the first i parts are looked at no more. -/
def restOk (ps : List (List UInt8)) (i : Nat) : Prop := ∀ j (h : j < ps.length), j < i → hpartT (ofL ps[j]) = true
theorem host_no (s : ByteArray) (ps : List (List UInt8)) (hps : cutL 46 s.size s.data.toList = ps) (i : Nat) (hi : i < ps.length) (h : hpartT (ofL ps[i]) = false) : hostT s = false := by
  unfold hostT
  rw [hps]
  have : (ps.all fun p => hpartT (ofL p)) = false := by
    rw [List.all_eq_false]
    exact ⟨ps[i], List.getElem_mem _, by rw [h]; decide⟩
  rw [this, Bool.and_false]
theorem host_yes (s : ByteArray) (ps : List (List UInt8)) (hps : cutL 46 s.size s.data.toList = ps) (h : restOk ps ps.length) : hostT s = decide ((s.size : Int) ≤ 20) := by
  unfold hostT
  rw [hps]
  have : (ps.all fun p => hpartT (ofL p)) = true := by
    rw [List.all_eq_true]
    intro p hp
    obtain ⟨j, hj, rfl⟩ := List.getElem_of_mem hp
    exact h j hj hj
  rw [this, Bool.and_true]
  congr 1
  simp only [eq_iff_iff]
  omega

theorem nick_all (s : ByteArray) (h : eachB nickB s = true) : nickT s = (okT s && (decide (1 ≤ s.size ∧ s.size ≤ 10) && edgeB 32 s)) := by
  unfold nickT
  rw [h]
  cases okT s <;> cases decide (1 ≤ s.size ∧ s.size ≤ 10) <;> cases edgeB 32 s <;> rfl
end Go.Proofs.Ytkfdggcccegmlaa.Hub
