/-
  The model's JidGet and the program's JidGet: at every text they answer jgetV; and the law's own eqJid.
-/
import Derived.Test.YtjpebjmjpilbbaaDoorJidGet
namespace Go.Proofs.YtjpebjmjpilbbaaDoor.Hub
open Go.RowKit Go.Shelf Go.Proofs
set_option linter.unusedVariables false

def noneV : Value := .tuple #[.agg #[.string ⟨#[]⟩, .string ⟨#[]⟩, .string ⟨#[]⟩], .bool false]
def jgetV (s : ByteArray) : Value := if s.size ≤ 60 then gVal s else noneV
/-- The three texts and the bool of what is read. -/
theorem gVal_shape (s : ByteArray) : ∃ (x y z : ByteArray) (b : Bool), gVal s = .tuple #[.agg #[.string x, .string y, .string z], .bool b] := by
  unfold gVal
  cases gOk s
  · exact ⟨_, _, _, _, rfl⟩
  · exact ⟨_, _, _, _, rfl⟩
theorem jgetV_shape (s : ByteArray) : ∃ (x y z : ByteArray) (b : Bool), jgetV s = .tuple #[.agg #[.string x, .string y, .string z], .bool b] := by
  unfold jgetV noneV
  split
  · exact gVal_shape s
  · exact ⟨_, _, _, _, rfl⟩

theorem is_empty (s : ByteArray) (h : s.size = 0) : s.toList.isEmpty = true := by rw [size_zero s h, ByteArray.toList_eq]; rfl
theorem gVal_none (s : ByteArray) (h : gOk s = false) : gVal s = noneV := by unfold gVal noneV; rw [h]; rfl
theorem gVal_some (s : ByteArray) (h : gOk s = true) : gVal s = .tuple #[.agg #[.string (foldT (gUser s)), .string (foldT (gHost s)), .string (gNick s)], .bool true] := by unfold gVal; rw [if_pos h]
def hasN (s : ByteArray) : Bool := (cutB 47 s).2.2
def hasU (s : ByteArray) : Bool := (cutB 64 (gHead s)).2.2
end Go.Proofs.YtjpebjmjpilbbaaDoor.Hub
