/-
  What an entry that is ok is, told by plain facts; and the entry that has just what its kind has.
-/
import Derived.Test.YtglbjibilllopaaDoorWords
import Derived.Test.YtglbjibilllopaaDoorJidOk
import Derived.Laws.StructEq
namespace Go.Proofs.YtglbjibilllopaaDoor.Hub
open Go.RowKit
set_option linter.unusedVariables false

/-- An entry, as a value. -/
abbrev entV (r : ByteArray) (q k : Int) (u n t i f : ByteArray) (m : Int) : Value := .agg #[.string r, .int .i64 q, .int .i64 k, .string u, .string n, .string t, .string i, .string f, .int .i64 m]
/-- No text. -/
def noT (s : ByteArray) : Bool := decide (s.size = 0)
/-- Just what its kind has. -/
def bareT (k : Int) (n t i f : ByteArray) (m : Int) : Bool :=
  if k = 1 ∨ k = 5 then noT t && (noT i && (noT f && (nickT n && inI m 1 3)))
  else if k = 2 then noT t && (noT i && (noT f && (nickT n && inI m 0 3)))
  else if k = 3 then decide (m = 0) && (nickT n && (bodyT t && (wordT i && orE wordT f)))
  else if k = 4 then noT f && (decide (m = 0) && (nickT n && (bodyT t && wordT i)))
  else if k = 6 then noT n && (noT t && (noT i && (noT f && inI m 0 4)))
  else false
def entT (r : ByteArray) (q k : Int) (u n t i f : ByteArray) (m : Int) : Bool := userT r && (userT u && (inI q 0 9998 && bareT k n t i f m))
theorem noT_cases (s : ByteArray) : (s = ⟨#[]⟩ ∧ noT s = true) ∨ (s.toList.isEmpty = false ∧ noT s = false) := by
  unfold noT
  by_cases h : s.size = 0
  · exact .inl ⟨size_zero s h, by simp [h]⟩
  · exact .inr ⟨not_empty s (by omega), by simp [h]⟩
theorem bareT_15 (k : Int) (h : k = 1 ∨ k = 5) (n t i f : ByteArray) (m : Int) : bareT k n t i f m = (noT t && (noT i && (noT f && (nickT n && inI m 1 3)))) := by
  unfold bareT; rw [if_pos h]
theorem bareT_2 (n t i f : ByteArray) (m : Int) : bareT 2 n t i f m = (noT t && (noT i && (noT f && (nickT n && inI m 0 3)))) := by
  unfold bareT; rw [if_neg (by omega), if_pos rfl]
theorem bareT_3 (n t i f : ByteArray) (m : Int) : bareT 3 n t i f m = (decide (m = 0) && (nickT n && (bodyT t && (wordT i && orE wordT f)))) := by
  unfold bareT; rw [if_neg (by omega), if_neg (by omega), if_pos rfl]
theorem bareT_4 (n t i f : ByteArray) (m : Int) : bareT 4 n t i f m = (noT f && (decide (m = 0) && (nickT n && (bodyT t && wordT i)))) := by
  unfold bareT; rw [if_neg (by omega), if_neg (by omega), if_neg (by omega), if_pos rfl]
theorem bareT_6 (n t i f : ByteArray) (m : Int) : bareT 6 n t i f m = (noT n && (noT t && (noT i && (noT f && inI m 0 4)))) := by
  unfold bareT; rw [if_neg (by omega), if_neg (by omega), if_neg (by omega), if_neg (by omega), if_pos rfl]
theorem bareT_no (k : Int) (h : k ≠ 1 ∧ k ≠ 2 ∧ k ≠ 3 ∧ k ≠ 4 ∧ k ≠ 5 ∧ k ≠ 6) (n t i f : ByteArray) (m : Int) : bareT k n t i f m = false := by
  unfold bareT; rw [if_neg (by omega), if_neg (by omega), if_neg (by omega), if_neg (by omega), if_neg (by omega)]
/-- What of an entry its kind has. -/
def hasN (k : Int) (s : ByteArray) : ByteArray := if k = 1 ∨ k = 2 ∨ k = 3 ∨ k = 4 ∨ k = 5 then s else ⟨#[]⟩
def hasT (k : Int) (s : ByteArray) : ByteArray := if k = 3 ∨ k = 4 then s else ⟨#[]⟩
def hasF (k : Int) (s : ByteArray) : ByteArray := if k = 3 then s else ⟨#[]⟩
def hasM (k : Int) (m : Int) : Int := if k = 1 ∨ k = 2 ∨ k = 5 ∨ k = 6 then m else 0
theorem kinds (k : Int) : k = 1 ∨ k = 2 ∨ k = 3 ∨ k = 4 ∨ k = 5 ∨ k = 6 ∨ (k ≠ 1 ∧ k ≠ 2 ∧ k ≠ 3 ∧ k ≠ 4 ∧ k ≠ 5 ∧ k ≠ 6) := by omega
end Go.Proofs.YtglbjibilllopaaDoor.Hub
