/-
  The model's l1Escape: at every text of at most 2^40 bytes it answers escL of its bytes, byte by byte.
-/
import Derived.Test.YtlonpaigfalbkaaDoorTextSpec
namespace Go.Proofs.YtlonpaigfalbkaaDoor.Hub
open Go.RowKit Go.Lib
set_option linter.unusedVariables false

/-- How a byte stands in marked text. -/
def escB (c : UInt8) : List UInt8 :=
  if c = 38 then [38, 97, 109, 112, 59] else if c = 60 then [38, 108, 116, 59] else if c = 62 then [38, 103, 116, 59] else if c = 34 then [38, 113, 117, 111, 116, 59]
  else if c = 39 then [38, 97, 112, 111, 115, 59] else if c = 10 then [38, 35, 49, 48, 59] else if c = 9 then [38, 35, 57, 59] else [c]
def escL (l : List UInt8) : List UInt8 := l.flatMap escB
def ofL (l : List UInt8) : ByteArray := ⟨l.toArray⟩
/-- The bytes of a text between two places. -/
def sub (s : ByteArray) (a b : Nat) : List UInt8 := (s.data.toList.drop a).take (b - a)
theorem escB_le (c : UInt8) : (escB c).length ≤ 6 := by
  unfold escB
  repeat' split
  all_goals simp
theorem escL_le : ∀ l : List UInt8, (escL l).length ≤ 6 * l.length
  | [] => by simp [escL]
  | c :: l => by
    have h1 := escL_le l
    have h2 := escB_le c
    unfold escL at h1 ⊢
    rw [List.flatMap_cons, List.length_append, List.length_cons]
    omega
theorem escL_append (a b : List UInt8) : escL (a ++ b) = escL a ++ escL b := by simp [escL]
theorem ofL_size (l : List UInt8) : (ofL l).size = l.length := by simp [ofL, ByteArray.size]
theorem ofL_append (a b : List UInt8) : ofL (a ++ b) = ofL a ++ ofL b := by
  apply ByteArray.ext
  simp [ofL]
theorem take_snoc (s : ByteArray) (k : Nat) (h : k < s.size) : s.data.toList.take (k + 1) = s.data.toList.take k ++ [s[k]] := by
  rw [List.take_succ_eq_append_getElem (by simpa using h)]; rfl
theorem esc_snoc (s : ByteArray) (k : Nat) (h : k < s.size) : ofL (escL (s.data.toList.take (k + 1))) = ofL (escL (s.data.toList.take k)) ++ ofL (escB s[k]) := by
  rw [take_snoc s k h, escL_append, ofL_append]
  simp [escL]

theorem extract_list (s : ByteArray) (a b : Nat) : (s.extract a b).data.toList = (s.data.toList.drop a).take (b - a) := by
  rw [← ByteArray.toList_eq, Lib.extract_toList]
theorem extract_one (s : ByteArray) (k : Nat) (h : k < s.size) : s.extract k (k + 1) = ofL [s[k]] := by
  apply WideShapes.bytes_inj
  rw [extract_list]
  have h2 : k < s.data.toList.length := h
  have e1 : k + 1 - k = 1 := by omega
  rw [e1, List.drop_eq_getElem_cons h2]
  rfl

end Go.Proofs.YtlonpaigfalbkaaDoor.Hub
