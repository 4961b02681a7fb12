/-
  The model's l6Bare, l6EntryOk and EntryOk: at every entry they answer bareT, entT.
-/
import Derived.Test.YtglbjibilllopaaDoorEntryBare
namespace Go.Proofs.YtglbjibilllopaaDoor.Hub
open Go.RowKit
set_option linter.unusedVariables false

/-- The cells of an entry that lies in a block of its own. -/
def Nine (W : World) (B : Nat) (r : ByteArray) (q k : Int) (u n t i f : ByteArray) (m : Int) : Prop :=
  W.cell? ⟨B, 0, none⟩ = some (.string r) ∧ W.cell? ⟨B, 1, none⟩ = some (.int .i64 q) ∧ W.cell? ⟨B, 2, none⟩ = some (.int .i64 k) ∧ W.cell? ⟨B, 3, none⟩ = some (.string u) ∧ W.cell? ⟨B, 4, none⟩ = some (.string n) ∧ W.cell? ⟨B, 5, none⟩ = some (.string t) ∧ W.cell? ⟨B, 6, none⟩ = some (.string i) ∧ W.cell? ⟨B, 7, none⟩ = some (.string f) ∧ W.cell? ⟨B, 8, none⟩ = some (.int .i64 m)
theorem nine_new (w : World) (ty : TypeId) (r : ByteArray) (q k : Int) (u n t i f : ByteArray) (m : Int) : Hid (∀ W : World, Below (w.alloc (.cells #[.string r, .int .i64 q, .int .i64 k, .string u, .string n, .string t, .string i, .string f, .int .i64 m] ty)).heap.size (w.alloc (.cells #[.string r, .int .i64 q, .int .i64 k, .string u, .string n, .string t, .string i, .string f, .int .i64 m] ty)) W → Nine W w.heap.size r q k u n t i f m) := fun W b =>
  ⟨(b.cell (p := ⟨w.heap.size, 0, none⟩) (by simp)).trans ((cellLit w _ _ 0).trans rfl), (b.cell (p := ⟨w.heap.size, 1, none⟩) (by simp)).trans ((cellLit w _ _ 1).trans rfl), (b.cell (p := ⟨w.heap.size, 2, none⟩) (by simp)).trans ((cellLit w _ _ 2).trans rfl), (b.cell (p := ⟨w.heap.size, 3, none⟩) (by simp)).trans ((cellLit w _ _ 3).trans rfl), (b.cell (p := ⟨w.heap.size, 4, none⟩) (by simp)).trans ((cellLit w _ _ 4).trans rfl), (b.cell (p := ⟨w.heap.size, 5, none⟩) (by simp)).trans ((cellLit w _ _ 5).trans rfl), (b.cell (p := ⟨w.heap.size, 6, none⟩) (by simp)).trans ((cellLit w _ _ 6).trans rfl), (b.cell (p := ⟨w.heap.size, 7, none⟩) (by simp)).trans ((cellLit w _ _ 7).trans rfl), (b.cell (p := ⟨w.heap.size, 8, none⟩) (by simp)).trans ((cellLit w _ _ 8).trans rfl)⟩

end Go.Proofs.YtglbjibilllopaaDoor.Hub
