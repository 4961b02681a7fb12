/-
  impl.EntryOk: at every entry it answers entT.
-/
import Derived.Test.YtglbjibilllopaaDoorEntrySpec
namespace Go.Proofs.YtglbjibilllopaaDoor.Hub
open Go.RowKit
set_option linter.unusedVariables false

/-- The entry is the one that has just what its kind has. -/
def sameT (k : Int) (n t i f : ByteArray) (m : Int) : Bool := (n.toList == (hasN k n).toList) && ((t.toList == (hasT k t).toList) && ((i.toList == (hasT k i).toList) && ((f.toList == (hasF k f).toList) && (m == hasM k m))))
theorem eqE (s : ByteArray) : (s.toList == (⟨#[]⟩ : ByteArray).toList) = noT s := by
  rcases noT_cases s with ⟨rfl, h⟩ | ⟨h1, h2⟩
  · rw [h]; simp
  · rw [h2]
    cases hs : s.toList with
    | nil => rw [hs] at h1; simp at h1
    | cons a l => rw [ByteArray.toList_eq]; rfl
theorem same_15 (k : Int) (h : k = 1 ∨ k = 2 ∨ k = 5) (n t i f : ByteArray) (m : Int) : sameT k n t i f m = (noT t && (noT i && noT f)) := by
  unfold sameT hasN hasT hasF hasM
  rw [if_pos (by omega), if_neg (by omega), if_neg (by omega), if_neg (by omega), if_pos (by omega), eqE, eqE, eqE]
  simp
theorem same_3 (n t i f : ByteArray) (m : Int) : sameT 3 n t i f m = decide (m = 0) := by
  unfold sameT hasN hasT hasF hasM
  rw [if_pos (by omega), if_pos (by omega), if_pos (by omega), if_pos (by omega), if_neg (by omega)]
  simp; rfl
theorem same_4 (n t i f : ByteArray) (m : Int) : sameT 4 n t i f m = (noT f && decide (m = 0)) := by
  unfold sameT hasN hasT hasF hasM
  rw [if_pos (by omega), if_pos (by omega), if_pos (by omega), if_neg (by omega), if_neg (by omega), eqE]
  simp; rfl
theorem same_6 (n t i f : ByteArray) (m : Int) : sameT 6 n t i f m = (noT n && (noT t && (noT i && noT f))) := by
  unfold sameT hasN hasT hasF hasM
  rw [if_neg (by omega), if_neg (by omega), if_neg (by omega), if_neg (by omega), if_pos (by omega), eqE, eqE, eqE, eqE]
  simp
/-- What is asked of an entry behind that. -/
theorem bare_no (k : Int) (n t i f : ByteArray) (m : Int) (h : sameT k n t i f m = false) : bareT k n t i f m = false := by
  rcases kinds k with rfl | rfl | rfl | rfl | rfl | rfl | h'
  · rw [same_15 1 (by omega)] at h; rw [bareT_15 1 (by omega)]
    revert h; cases noT t <;> cases noT i <;> cases noT f <;> simp
  · rw [same_15 2 (by omega)] at h; rw [bareT_2]
    revert h; cases noT t <;> cases noT i <;> cases noT f <;> simp
  · rw [same_3] at h; rw [bareT_3, h]; rfl
  · rw [same_4] at h; rw [bareT_4]
    revert h; cases noT f <;> cases decide (m = 0) <;> simp
  · rw [same_15 5 (by omega)] at h; rw [bareT_15 5 (by omega)]
    revert h; cases noT t <;> cases noT i <;> cases noT f <;> simp
  · rw [same_6] at h; rw [bareT_6]
    revert h; cases noT n <;> cases noT t <;> cases noT i <;> cases noT f <;> simp
  · exact bareT_no k h' n t i f m
theorem bare_15 (k : Int) (hk : k = 1 ∨ k = 5) (n t i f : ByteArray) (m : Int) (h : sameT k n t i f m = true) : bareT k n t i f m = (nickT n && inI m 1 3) := by
  rw [same_15 k (by omega)] at h; rw [bareT_15 k hk]
  revert h; cases noT t <;> cases noT i <;> cases noT f <;> simp
theorem bare_2 (n t i f : ByteArray) (m : Int) (h : sameT 2 n t i f m = true) : bareT 2 n t i f m = (nickT n && inI m 0 3) := by
  rw [same_15 2 (by omega)] at h; rw [bareT_2]
  revert h; cases noT t <;> cases noT i <;> cases noT f <;> simp
theorem bare_3 (n t i f : ByteArray) (m : Int) (h : sameT 3 n t i f m = true) : bareT 3 n t i f m = (nickT n && (bodyT t && (wordT i && orE wordT f))) := by
  rw [same_3] at h; rw [bareT_3, h]; rfl
theorem bare_4 (n t i f : ByteArray) (m : Int) (h : sameT 4 n t i f m = true) : bareT 4 n t i f m = (nickT n && (bodyT t && wordT i)) := by
  rw [same_4] at h; rw [bareT_4]
  revert h; cases noT f <;> cases decide (m = 0) <;> simp
theorem bare_6 (n t i f : ByteArray) (m : Int) (h : sameT 6 n t i f m = true) : bareT 6 n t i f m = inI m 0 4 := by
  rw [same_6] at h; rw [bareT_6]
  revert h; cases noT n <;> cases noT t <;> cases noT i <;> cases noT f <;> simp

end Go.Proofs.YtglbjibilllopaaDoor.Hub
