/-
  Large letters as small ones: the program's smallLetters and the model's l4Fold: at every text of at most 2^40 bytes they answer foldT.
-/
import Derived.Test.YtjpebjmjpilbbaaDoorJidCut
import Derived.Lib.ConvBytes
import Derived.Laws.BytesArg
namespace Go.Proofs.YtjpebjmjpilbbaaDoor.Hub
open Go.RowKit
set_option linter.unusedVariables false

/-- A byte, small if it is a large letter. -/
def foldB (b : UInt8) : UInt8 := if 65 ≤ b.toNat ∧ b.toNat ≤ 90 then b + 32 else b
def foldT (s : ByteArray) : ByteArray := ofL (s.data.toList.map foldB)
theorem foldT_size (s : ByteArray) : (foldT s).size = s.size := by
  unfold foldT
  rw [ofL_size, List.length_map]
  rfl
theorem foldB_yes (b : UInt8) (h : 65 ≤ b.toNat ∧ b.toNat ≤ 90) : ((foldB b).toNat : Int) = (b.toNat : Int) + 32 := by
  unfold foldB
  rw [if_pos h, UInt8.toNat_add]
  have : (32 : UInt8).toNat = 32 := rfl
  omega
theorem foldB_no (b : UInt8) (h : ¬ (65 ≤ b.toNat ∧ b.toNat ≤ 90)) : foldB b = b := by
  unfold foldB
  rw [if_neg h]
/-- The cells of bytes. -/
def u8s (l : List UInt8) : List Value := l.map fun b => Value.int .u8 (b.toNat : Int)
theorem u8s_snoc (l : List UInt8) (b : UInt8) : u8s (l ++ [b]) = u8s l ++ [.int .u8 (b.toNat : Int)] := by simp [u8s]
theorem fold_take (s : ByteArray) (k : Nat) (h : k < s.size) : (s.data.toList.take (k + 1)).map foldB = (s.data.toList.take k).map foldB ++ [foldB s[k]] := by
  rw [take_snoc s k h]
  simp
theorem info_u8 : (Tryd.prog.info? 5).map (fun i => (i.zero, i.size, i.bytes)) = some (some (.int .u8 0), 1, 1) := by kernel_rfl
theorem cell_one8 (W : World) (v : Value) : ∀ (j : Nat) (u : Value), [v][j]? = some u → (W.alloc (.cells #[v] 5)).cell? ((⟨W.heap.size, 0, none⟩ : Addr).add j) = some u := by
  intro j u hj
  match j, hj with
  | 0, hj => simp at hj; subst hj; simp [Addr.add]
theorem one_cell8 (x : Int) : ∀ u ∈ [Value.int .u8 x], u.oneCell' = true := by
  intro u hu
  simp at hu
  subst hu
  rfl

/-- The bytes of a text of which the first k are folded. -/
def halfB (s : ByteArray) (k j : Nat) (h : j < s.size) : UInt8 := if j < k then foldB s[j] else s[j]
/-- A row of bytes that may be written. -/
def RowAt (W : World) (g : Nat) (s : ByteArray) (k : Nat) : Prop := ∀ (j : Nat) (h : j < s.size), W.cell? ⟨g, j, none⟩ = some (.int .u8 ((halfB s k j h).toNat : Int)) ∧ W.frozen? ⟨g, j, none⟩ = false
theorem row_new (w : World) (s : ByteArray) : RowAt (Lib.bytesWorld w 5 s) w.heap.size s 0 := by
  intro j h
  refine ⟨?_, ?_⟩
  · rw [Lib.bytesWorld_cell w _ s j h]
    unfold halfB
    rw [if_neg (by omega)]
    have hl : s.data.toList.length = s.size := rfl
    rw [List.getD_eq_getElem?_getD, List.getElem?_eq_getElem (by omega)]
    rfl
  · have hsz : s.size ≤ (Lib.bytesCells w 5 s).size := by unfold Lib.bytesCells; rw [Array.size_append, Array.size_map]; exact Nat.le_add_right _ _
    simp [World.frozen?, Lib.bytesWorld_at_new]
    omega
theorem half_succ (s : ByteArray) (k j : Nat) (h : j < s.size) (hj : j ≠ k) : halfB s (k + 1) j h = halfB s k j h := by
  unfold halfB
  by_cases hlt : j < k
  · rw [if_pos hlt, if_pos (by omega)]
  · rw [if_neg hlt, if_neg (by omega)]
theorem row_set (W : World) (g k : Nat) (s : ByteArray) (hk : k < s.size) (x : Int) (hx : x = ((foldB s[k]).toNat : Int)) (h : RowAt W g s k) : RowAt (W.setCell ⟨g, k, none⟩ (.int .u8 x)) g s (k + 1) := by
  intro j hj
  rw [World.frozen?_setCell]
  refine ⟨?_, (h j hj).2⟩
  by_cases e : j = k
  · subst e
    rw [World.cell?_setCell_same _ _ _ (h j hj).1]
    unfold halfB
    rw [if_pos (by omega), hx]
  · rw [World.cell?_setCell_other _ _ _ _ (by intro h2; cases h2; exact e rfl), half_succ s k j hj e]
    exact (h j hj).1
theorem row_keep (W : World) (g k : Nat) (s : ByteArray) (hk : k < s.size) (hx : foldB s[k] = s[k]) (h : RowAt W g s k) : RowAt W g s (k + 1) := by
  intro j hj
  refine ⟨?_, (h j hj).2⟩
  rw [(h j hj).1]
  by_cases e : j = k
  · subst e
    unfold halfB
    rw [if_neg (by omega), if_pos (by omega), hx]
  · rw [half_succ s k j hj e]
theorem below_bytesWorld (w : World) (s : ByteArray) : Below w.heap.size w (Lib.bytesWorld w 5 s) :=
  ⟨rfl, rfl, rfl, by rw [Lib.bytesWorld_size]; omega, fun j hj => Lib.bytesWorld_at_old w _ s j hj⟩

end Go.Proofs.YtjpebjmjpilbbaaDoor.Hub
