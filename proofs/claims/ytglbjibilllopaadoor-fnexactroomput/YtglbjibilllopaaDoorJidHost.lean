/-
  The library's strings.SplitSeq at a dot, and the program's isHost: at every text it answers hostT.
-/
import Derived.Shelf.Abstract
import Derived.Shelf.RegionOpen
import Derived.OwnWalkIn
import Derived.TacticsInMore
import Derived.LoopNIn
import Derived.LoopIn
import Derived.Test.YtglbjibilllopaaDoorRangeBox
import Derived.Test.YtglbjibilllopaaDoorShelfC
import Derived.Test.YtglbjibilllopaaDoorJidUser
namespace Go.Proofs.YtglbjibilllopaaDoor.Hub
open Go.RowKit Go.Shelf Go.Proofs
attribute [local go_sem] Oper.semAt_some
set_option linter.unusedVariables false

theorem cutL_more (c : UInt8) : ∀ (m : Nat) (l : List UInt8), l.length ≤ m → cutL c (m + 1) l = cutL c m l
  | m, [], _ => by cases m <;> rfl
  | 0, _ :: _, h => by simp at h
  | m + 1, x :: xs, h => by
    simp only [List.length_cons] at h
    have e1 := cutL_more c m xs (by omega)
    have e2 := cutL_more c (m + 1) xs (by omega)
    rw [cutL_cons, cutL_cons, e2, e1]
theorem tail_list (r : ByteArray) (k : Nat) : (r.extract k r.size).data.toList = r.data.toList.drop k := by
  rw [extract_list, List.take_of_length_le (by rw [List.length_drop]; exact Nat.le_refl _)]
theorem head_bytes (r : ByteArray) (i : Nat) : ofL (r.data.toList.take i) = r.extract 0 i := by
  apply WideShapes.bytes_inj
  rw [extract_list]
  simp [ofL]
/-- The parts of a text, as texts. -/
def partsB (m : Nat) (r : ByteArray) : List ByteArray := (cutL 46 m r.data.toList).map ofL
theorem partsB_cases (m : Nat) (r : ByteArray) (hm : 1 ≤ m) : (Lib.indexByte r.data.toList 46 = -1 ∧ partsB m r = [r]) ∨ (∃ i : Nat, Lib.indexByte r.data.toList 46 = (i : Int) ∧ i < r.size ∧ partsB m r = r.extract 0 i :: partsB (m - 1) (r.extract (i + 1) r.size)) := by
  unfold partsB
  rcases cutL_index 46 m r.data.toList hm with ⟨h1, h2⟩ | ⟨i, h1, h2, h3⟩
  · exact .inl ⟨h1, by rw [h2]; rfl⟩
  · refine .inr ⟨i, h1, h2, ?_⟩
    rw [h3, List.map_cons, head_bytes, tail_list]
theorem host_parts (s : ByteArray) (h : s.size ≤ 20) : hostT s = (partsB (s.size + 1) s).all hpartT := by
  unfold hostT partsB
  rw [decide_eq_true h, Bool.true_and, cutL_more 46 s.size s.data.toList (Nat.le_refl _), List.all_map]
  rfl

/-- How long the text is that lies in a block's cell. -/
def strAt (w : World) (b : Nat) : Nat := match w.cell? ⟨b, 0, none⟩ with
  | some (.string r) => r.size
  | _ => 0
theorem strAt_of {w : World} {b : Nat} {r : ByteArray} (h : w.heap[b]? = some (.cells #[.string r] 9 (0, 0))) : strAt w b = r.size := by
  unfold strAt
  simp [World.cell?, h]

theorem boxed_store {W : World} {B b : Nat} {t : TypeId} {v u : Value} (h : Boxed W B t v) (hne : B ≠ b) : Boxed (W.setCell ⟨b, 0, none⟩ u) B t v := (heap_setCell_ne W b B u hne).trans h

end Go.Proofs.YtglbjibilllopaaDoor.Hub
