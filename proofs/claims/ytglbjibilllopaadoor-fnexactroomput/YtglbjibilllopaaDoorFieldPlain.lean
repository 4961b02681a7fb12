/-
  Plain facts on texts between bars: how a text is written so that no bar of it ends it, and that users stand as they are.
-/
import Derived.Test.YtglbjibilllopaaDoorEntryText
import Derived.Test.YtglbjibilllopaaDoorJidPlain
namespace Go.Proofs.YtglbjibilllopaaDoor.Hub
open Go.RowKit
set_option linter.unusedVariables false

/-- A text, a backslash ahead of each bar and backslash. -/
def fieldL : List UInt8 → List UInt8
  | [] => []
  | x :: xs => (if x = 124 ∨ x = 92 then [92, x] else [x]) ++ fieldL xs
theorem fieldL_append : ∀ a b : List UInt8, fieldL (a ++ b) = fieldL a ++ fieldL b
  | [], b => rfl
  | x :: a, b => by
    show (if x = 124 ∨ x = 92 then [92, x] else [x]) ++ fieldL (a ++ b) = (if x = 124 ∨ x = 92 then [92, x] else [x]) ++ fieldL a ++ fieldL b
    rw [fieldL_append a b, List.append_assoc]
theorem fieldPre_L (s : ByteArray) : ∀ k, k ≤ s.size → (fieldPre s k).data.toList = fieldL (s.data.toList.take k)
  | 0, _ => rfl
  | k + 1, h => by
    have hlt : k < s.size := h
    have hlt2 : k < s.data.toList.length := hlt
    have hx : (s.extract k (k + 1)).data.toList = [s[k]] := by
      have e : (s.extract k (k + 1)).data.toList = (s.data.toList.drop k).take 1 := by simp [ByteArray.data_extract]
      rw [e, List.drop_eq_getElem_cons hlt2]
      rfl
    have hd : s.data[k]? = some s[k] := by rw [Array.getElem?_eq_getElem (by exact hlt)]; rfl
    have ht : s.data.toList.take (k + 1) = s.data.toList.take k ++ [s[k]] := by
      rw [List.take_succ_eq_append_getElem hlt2]
      rfl
    rw [ht, fieldL_append, ← fieldPre_L s k (by omega)]
    have e1 : fieldL [s[k]] = if s[k] = 124 ∨ s[k] = 92 then [92, s[k]] else [s[k]] := by simp [fieldL]
    rw [e1]
    have e2 : fieldPre s (k + 1) = (if s.data[k]? = some 124 ∨ s.data[k]? = some 92 then fieldPre s k ++ ⟨#[92]⟩ else fieldPre s k) ++ s.extract k (k + 1) := rfl
    rw [e2, hd]
    simp only [Option.some.injEq]
    by_cases hc : s[k] = 124 ∨ s[k] = 92
    · rw [if_pos hc, if_pos hc, ByteArray.data_append, Array.toList_append, ByteArray.data_append, Array.toList_append, hx]
      simp
    · rw [if_neg hc, if_neg hc, ByteArray.data_append, Array.toList_append, hx]
theorem fieldT_L (s : ByteArray) : (fieldT s).data.toList = fieldL s.data.toList := by
  unfold fieldT
  rw [fieldPre_L s s.size (Nat.le_refl _), List.take_of_length_le (show s.data.toList.length ≤ s.size from Nat.le_refl _)]
theorem fieldL_same : ∀ l : List UInt8, (∀ x ∈ l, x ≠ 124 ∧ x ≠ 92) → fieldL l = l
  | [], _ => rfl
  | x :: l, h => by
    have hx := h x (by simp)
    show (if x = 124 ∨ x = 92 then [92, x] else [x]) ++ fieldL l = _
    rw [if_neg (by rintro (e | e); exact hx.1 e; exact hx.2 e), fieldL_same l (fun y hy => h y (by simp [hy]))]
    rfl
theorem user_plain {s : ByteArray} (h : userT s = true) : ∀ x ∈ s.data.toList, x ≠ 124 ∧ x ≠ 92 := by
  unfold userT eachB at h
  simp only [Bool.and_eq_true, List.all_eq_true] at h
  intro x hx
  have := h.2 x hx
  unfold userB at this
  simp only [decide_eq_true_eq] at this
  constructor
  · rintro rfl; revert this; decide
  · rintro rfl; revert this; decide
theorem fieldT_user {s : ByteArray} (h : userT s = true) : (fieldT s).data.toList = s.data.toList := by
  rw [fieldT_L, fieldL_same _ (user_plain h)]
end Go.Proofs.YtglbjibilllopaaDoor.Hub
