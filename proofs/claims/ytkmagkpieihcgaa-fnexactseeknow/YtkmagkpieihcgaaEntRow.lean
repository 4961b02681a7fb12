/-
  Lists of entrys in a row of their own: one more at the end.
-/
import Derived.Test.YtkmagkpieihcgaaEntMark
namespace Go.Proofs.Ytkmagkpieihcgaa.Hub
open Go.RowKit
set_option linter.unusedVariables false
set_option linter.unusedSimpArgs false

def gtEnt (L : List EntX) (j : Nat) : EntX := L.getD j ⟨⟨#[]⟩, 0, 0, ⟨#[]⟩, ⟨#[]⟩, ⟨#[]⟩, ⟨#[]⟩, ⟨#[]⟩, 0⟩
theorem gtEnt_app (L : List EntX) (e : EntX) (j : Nat) (h : j < L.length) : gtEnt (L ++ [e]) j = gtEnt L j := by
  unfold gtEnt
  rw [List.getD_eq_getElem?_getD, List.getD_eq_getElem?_getD, List.getElem?_append_left h]
theorem gtEnt_end (L : List EntX) (e : EntX) : gtEnt (L ++ [e]) L.length = e := by
  unfold gtEnt
  rw [List.getD_eq_getElem?_getD, List.getElem?_append_right (Nat.le_refl _), Nat.sub_self]
  rfl
theorem Entsnoc {W : World} {base : Nat} {v : Value} {L : List EntX} {e : EntX} (h : W.ownsRow base 33 9 v (L.length + 1) (rowVs (EntC (gtEnt L)) L.length ++ rowVs (EntC (fun _ => e)) 1)) : OwnEnt W base v (L ++ [e]).length (gtEnt (L ++ [e])) := by
  have hl : (L ++ [e]).length = L.length + 1 := by simp
  rw [hl]
  unfold OwnEnt OwnL
  rw [rowVs_succ]
  have e1 : rowVs (EntC (gtEnt (L ++ [e]))) L.length = rowVs (EntC (gtEnt L)) L.length := rowVs_congr L.length (fun j hj => by simp only [EntC, gtEnt_app L e j hj])
  have e2 : rowVs (EntC (fun _ => e)) 1 = EntC (gtEnt (L ++ [e])) L.length := by
    rw [rowVs_succ]
    simp [rowVs, EntC, gtEnt_end]
  rw [e1, ← e2]
  exact h
theorem Entcells (e : EntX) : ∀ u ∈ rowVs (EntC (fun _ => e)) 1, u.oneCell' = true := rowVs_mem (fun j u hu => by
  simp at hu
  rcases hu with rfl | rfl | rfl | rfl | rfl | rfl | rfl | rfl | rfl <;> rfl) 1
theorem Entnew (W : World) (e : EntX) : ListAt (W.alloc (.cells #[.string e.room, .int .i64 e.seq, .int .i64 e.kind, .string e.user, .string e.nick, .string e.text, .string e.id, .string e.ref, .int .i64 e.num] 33)) 9 (.slice (some ⟨W.heap.size, 0, none⟩) 1 1) 1 (EntC (fun _ => e)) := by
  refine ⟨some ⟨W.heap.size, 0, none⟩, 1, rfl, Nat.le_refl _, by unfold maxLen; omega, fun j hj => ⟨W.heap.size, 0, rfl, by simp, fun i hi => ?_⟩⟩
  obtain rfl : j = 0 := by omega
  have h := line_cell W #[.string e.room, .int .i64 e.seq, .int .i64 e.kind, .string e.user, .string e.nick, .string e.text, .string e.id, .string e.ref, .int .i64 e.num] 33 i
  rw [show 0 + 0 * 9 + i = i by omega, h]
  match i, hi with
  | 0, _ => rfl
  | 1, _ => rfl
  | 2, _ => rfl
  | 3, _ => rfl
  | 4, _ => rfl
  | 5, _ => rfl
  | 6, _ => rfl
  | 7, _ => rfl
  | 8, _ => rfl
theorem info_Ent : (Try.prog.info? 33).map (fun i => (i.zero, i.size, i.bytes)) = some (some (.agg #[.string ⟨#[]⟩, .int .i64 0, .int .i64 0, .string ⟨#[]⟩, .string ⟨#[]⟩, .string ⟨#[]⟩, .string ⟨#[]⟩, .string ⟨#[]⟩, .int .i64 0]), 9, 120) := by kernel_rfl
end Go.Proofs.Ytkmagkpieihcgaa.Hub
