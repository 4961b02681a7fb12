/-
  What a path is written as.
-/
import Derived.Test.YtocpbcghkphcgaaPathOkT
import Derived.Test.YtocpbcghkphcgaaBuilder
namespace Go.Proofs.Ytocpbcghkphcgaa.Hub
open Go.RowKit
set_option linter.unusedVariables false
set_option linter.unusedSimpArgs false

/-- A step as it stands at a place. -/
def stepL (i : Nat) (d : Bool) (n a t : ByteArray) : List UInt8 :=
  (if d then [47, 47] else if 0 < i then [47] else []) ++ (n.data.toList ++ (if a = ⟨#[]⟩ then [] else 91 :: (a.data.toList ++ ([61, 39] ++ (t.data.toList ++ [39, 93])))))
def putL (D : Nat → Bool) (N A T : Nat → ByteArray) : Nat → List UInt8
  | 0 => []
  | k + 1 => putL D N A T k ++ stepL k (D k) (N k) (A k) (T k)
def putS (D : Nat → Bool) (N A T : Nat → ByteArray) (n : Nat) : ByteArray := ⟨(putL D N A T n).toArray⟩
def pputT (D : Nat → Bool) (N A T : Nat → ByteArray) (n : Nat) : ByteArray := if pathT N A T n = true then putS D N A T n else ⟨#[]⟩
theorem step_small {n a t : ByteArray} (h : stepT n a t = true) : n.size ≤ 12 ∧ a.size ≤ 12 ∧ t.size ≤ 10 := by
  unfold stepT at h
  rw [Bool.and_eq_true, Bool.or_eq_true] at h
  obtain ⟨h1, h2⟩ := h
  refine ⟨?_, ?_⟩
  · rcases h1 with h1 | h1
    · have := of_decide_eq_true h1; subst this; decide
    · exact (of_decide_eq_true h1 : NameP n).2.1
  · by_cases ha : a = ⟨#[]⟩
    · rw [if_pos ha] at h2
      have := of_decide_eq_true h2
      subst ha this
      decide
    · rw [if_neg ha, Bool.and_eq_true] at h2
      unfold valT at h2
      rw [Bool.and_eq_true] at h2
      exact ⟨(of_decide_eq_true h2.1 : NameP a).2.1, of_decide_eq_true h2.2.1⟩
theorem steps_at {N A T : Nat → ByteArray} {n : Nat} (h : stepsT N A T n = true) {j : Nat} (hj : j < n) : (N j).size ≤ 12 ∧ (A j).size ≤ 12 ∧ (T j).size ≤ 10 := by
  unfold stepsT at h
  rw [List.all_eq_true] at h
  exact step_small (h j (List.mem_range.2 hj))
theorem stepL_len {i : Nat} {d : Bool} {n a t : ByteArray} (h : n.size ≤ 12 ∧ a.size ≤ 12 ∧ t.size ≤ 10) : (stepL i d n a t).length ≤ 45 := by
  have h1 : n.data.toList.length = n.size := rfl
  have h2 : a.data.toList.length = a.size := rfl
  have h3 : t.data.toList.length = t.size := rfl
  unfold stepL
  rw [List.length_append, List.length_append]
  have g1 : (if d = true then ([47, 47] : List UInt8) else if 0 < i then [47] else []).length ≤ 2 := by split <;> (try split) <;> simp
  have g2 : (if a = ⟨#[]⟩ then ([] : List UInt8) else 91 :: (a.data.toList ++ ([61, 39] ++ (t.data.toList ++ [39, 93])))).length ≤ 29 := by
    split
    · simp
    · simp only [List.length_cons, List.length_append, List.length_nil]; omega
  omega
theorem putL_len {D : Nat → Bool} {N A T : Nat → ByteArray} {n : Nat} (h : stepsT N A T n = true) : ∀ k, k ≤ n → (putL D N A T k).length ≤ 45 * k
  | 0, _ => by simp [putL]
  | k + 1, hk => by
    have h1 := putL_len (D := D) h k (by omega)
    have h2 := stepL_len (i := k) (d := D k) (steps_at h (show k < n by omega))
    rw [putL, List.length_append]
    omega
theorem list_str (b : ByteArray) (l : List UInt8) (h : b.data.toList = l) : b = ⟨l.toArray⟩ := by
  subst h
  cases b
  simp

theorem rel_join {D : Nat → Bool} {N A T : Nat → ByteArray} {k : Nat} {O X n a t : ByteArray} {e : Bool} (HO : O.data.toList = putL D N A T k) (HP : putL D N A T (k + 1) = putL D N A T k ++ stepL k e n a t) (hz : n.size ≤ 12 ∧ a.size ≤ 12 ∧ t.size ≤ 10) (hO : O.size ≤ 45 * k) (hX : X.data.toList = O.data.toList ++ stepL k e n a t) : Hid (X.data.toList = putL D N A T (k + 1)) ∧ X.size ≤ 45 * (k + 1) := by
  have h := stepL_len (i := k) (d := e) hz
  have e1 : X.data.toList.length = X.size := rfl
  have e2 : O.data.toList.length = O.size := rfl
  rw [hX, List.length_append] at e1
  refine ⟨?_, by omega⟩
  have : X.data.toList = putL D N A T (k + 1) := by rw [HP, hX, HO]
  exact this
theorem join00 {k : Nat} {O n t : ByteArray} (h : ¬ 0 < k) : (O ++ n).data.toList = O.data.toList ++ stepL k false n ⟨#[]⟩ t := by
  unfold stepL
  rw [if_neg (by decide), if_neg h, if_pos rfl]
  simp
theorem join10 {k : Nat} {O n t : ByteArray} (h : 0 < k) : (O ++ ByteArray.mk #[47] ++ n).data.toList = O.data.toList ++ stepL k false n ⟨#[]⟩ t := by
  unfold stepL
  rw [if_neg (by decide), if_pos h, if_pos rfl]
  simp
theorem join20 {k : Nat} {O n t : ByteArray} : (O ++ ByteArray.mk #[47, 47] ++ n).data.toList = O.data.toList ++ stepL k true n ⟨#[]⟩ t := by
  unfold stepL
  rw [if_pos rfl, if_pos rfl]
  simp
theorem join01 {k : Nat} {O n a t : ByteArray} (h : ¬ 0 < k) (ha : ¬ a = ⟨#[]⟩) : (O ++ n ++ ByteArray.mk #[91] ++ a ++ ByteArray.mk #[61, 39] ++ t ++ ByteArray.mk #[39, 93]).data.toList = O.data.toList ++ stepL k false n a t := by
  unfold stepL
  rw [if_neg (by decide), if_neg h, if_neg ha]
  simp
theorem join11 {k : Nat} {O n a t : ByteArray} (h : 0 < k) (ha : ¬ a = ⟨#[]⟩) : (O ++ ByteArray.mk #[47] ++ n ++ ByteArray.mk #[91] ++ a ++ ByteArray.mk #[61, 39] ++ t ++ ByteArray.mk #[39, 93]).data.toList = O.data.toList ++ stepL k false n a t := by
  unfold stepL
  rw [if_neg (by decide), if_pos h, if_neg ha]
  simp
theorem join21 {k : Nat} {O n a t : ByteArray} (ha : ¬ a = ⟨#[]⟩) : (O ++ ByteArray.mk #[47, 47] ++ n ++ ByteArray.mk #[91] ++ a ++ ByteArray.mk #[61, 39] ++ t ++ ByteArray.mk #[39, 93]).data.toList = O.data.toList ++ stepL k true n a t := by
  unfold stepL
  rw [if_pos rfl, if_neg ha]
  simp

end Go.Proofs.Ytocpbcghkphcgaa.Hub
