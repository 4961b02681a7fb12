/-
  The model's l1Cut: at every text of at most 2^40 bytes it answers the parts of cutL, in a list of its own.
-/
import Derived.Test.YtlonpaigfalbkaaDoorJidPlain
import Derived.WalkKit
import Derived.RangeFuncBox
namespace Go.Proofs.YtlonpaigfalbkaaDoor.Hub
open Go.RowKit
set_option linter.unusedVariables false

/-- Parts of a text, as the cells of a list. -/
def strs (ps : List (List UInt8)) : List Value := ps.map fun p => Value.string (ofL p)
theorem strs_snoc (ps : List (List UInt8)) (p : List UInt8) : strs (ps ++ [p]) = strs ps ++ [.string (ofL p)] := by simp [strs]
theorem strs_len (ps : List (List UInt8)) : (strs ps).length = ps.length := by simp [strs]
theorem sub_ofL (s : ByteArray) (a b : Nat) : ofL (sub s a b) = s.extract a b := by
  apply WideShapes.bytes_inj
  rw [extract_list]
  simp [ofL, sub]
theorem sub_succ (s : ByteArray) (a k : Nat) (ha : a ≤ k) (h : k < s.size) : sub s a (k + 1) = sub s a k ++ [s[k]] := by
  unfold sub
  have hl : s.data.toList.length = s.size := rfl
  rw [show k + 1 - a = (k - a) + 1 by omega, List.take_succ_eq_append_getElem (by rw [List.length_drop]; omega), List.getElem_drop]
  have e : s[k] = s.data.toList[a + (k - a)]'(by omega) := by
    show s.data.toList[k]'(by omega) = _
    congr 1
    omega
  rw [e]
theorem sub_self (s : ByteArray) (a : Nat) : sub s a a = [] := by simp [sub]
theorem drop_cons (s : ByteArray) (k : Nat) (h : k < s.size) : s.data.toList.drop k = s[k] :: s.data.toList.drop (k + 1) := by
  have hl : s.data.toList.length = s.size := rfl
  rw [List.drop_eq_getElem_cons (by omega)]
  rfl
theorem sub_end (s : ByteArray) (a k : Nat) (ha : a ≤ k) (hk : k ≤ s.size) : sub s a k ++ s.data.toList.drop k = s.data.toList.drop a := by
  unfold sub
  have : s.data.toList.drop k = (s.data.toList.drop a).drop (k - a) := by rw [List.drop_drop]; congr 1; omega
  rw [this, List.take_append_drop]
theorem info_str : (Tryd.prog.info? 9).map (fun i => (i.zero, i.size, i.bytes)) = some (some (.string ⟨#[]⟩), 1, 16) := by kernel_rfl

theorem cell_one (W : World) (v : Value) : ∀ (j : Nat) (u : Value), [v][j]? = some u → (W.alloc (.cells #[v] 9)).cell? ((⟨W.heap.size, 0, none⟩ : Addr).add j) = some u := by
  intro j u hj
  match j, hj with
  | 0, hj => simp at hj; subst hj; simp [Addr.add]
theorem one_cell (x : ByteArray) : ∀ u ∈ [Value.string x], u.oneCell' = true := by
  intro u hu
  simp at hu
  subst hu
  rfl
theorem le_maxLen (n : Nat) (h : n ≤ 1099511627777) : n ≤ maxLen := by unfold maxLen; omega
/-- A list of its own, behind a call: a slice of so many cells. -/
def Parts (n₀ : Nat) (ps : List (List UInt8)) (w : World) (e : Ending) (w' : World) : Prop :=
  ∃ g cap : Nat, e = .returned (.slice (some ⟨g, 0, none⟩) ps.length cap) ∧ w'.ownsRow n₀ 9 1 (.slice (some ⟨g, 0, none⟩) ps.length cap) ps.length (strs ps) ∧ Below n₀ w w'

end Go.Proofs.YtlonpaigfalbkaaDoor.Hub
