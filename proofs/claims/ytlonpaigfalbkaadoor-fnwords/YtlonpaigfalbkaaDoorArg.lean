/-
  A slice of bytes that came in as an argument: how many bytes it has, each in a cell of its own.
-/
import Derived.Test.YtlonpaigfalbkaaDoorDraw
namespace Go.Proofs.YtlonpaigfalbkaaDoor.Hub
open Go.ChangeShapes Go.WideShapes Go.ChangeAt Go.RowKit
set_option linter.unusedVariables false
set_option linter.constructorNameAsVariable false

theorem bytes_shape {n₀ n : Nat} {W : World} {v : Value} (h : BytesAt n₀ W v n) : ∃ o cap, v = .slice o n cap := by
  rcases h with ⟨o, cap, rfl, rfl⟩ | ⟨b, off, cap, rfl, _⟩
  · exact ⟨_, _, rfl⟩
  · exact ⟨_, _, rfl⟩
theorem cells_byte : Tryd.prog.cellsOf 5 = 1 := by kernel_rfl
set_option maxRecDepth 100000 in
/-- A slice of bytes that came in. -/
theorem open_bytes {H : Type} {enc : TypeId × Value → H} {W : World} {base : Nat} {v1 : Value} {d1 : DataW H} {p1 : List MemPlace} (hval : Value.okWide Tryd.prog W .any base 22 v1) (h1 : DataW.Trod enc Tryd.prog W 0 (fun _ => true) true 22 v1 d1 p1) :
    ∃ n, BytesAt W.heap.size W v1 n := by
  obtain ⟨a1, len, cap, rfl⟩ := okWide_slice Tryd.underlying22 hval
  obtain ⟨fuel, hf⟩ := h1
  rcases open_ints Tryd.underlying22 Tryd.underlying5 cells_byte hf with ⟨hcs, hx⟩ | ⟨a, len', cap', zs, hcs, _, hl, hm, hz, hx, hcell, hwz⟩
  · simp only [Value.cells, List.cons.injEq, Value.slice.injEq, and_true] at hcs
    obtain ⟨rfl, rfl, rfl⟩ := hcs
    exact ⟨0, .inl ⟨_, _, rfl, rfl⟩⟩
  · simp only [Value.cells, List.cons.injEq, Value.slice.injEq, and_true] at hcs
    obtain ⟨rfl, rfl, rfl⟩ := hcs
    simp only [if_true] at hz
    obtain ⟨ab, ao, spot⟩ := a
    by_cases h0 : len = 0
    · subst h0
      exact ⟨0, .inl ⟨_, _, rfl, rfl⟩⟩
    · have c0 := hcell 0 (by omega)
      have hspot : spot = none := by simpa [Addr.add] using World.cell?_spot c0
      subst hspot
      refine ⟨len, .inr ⟨ab, ao, cap, rfl, hl, ?_, fun i hi => ?_⟩⟩
      · rw [Addr.add_lit] at c0
        obtain ⟨o, ho, _⟩ := cells_of_cell c0
        exact (Array.getElem?_eq_some_iff.1 ho).1
      · have hb := range_u8 hwz i
        have hc := hcell i (by omega)
        rw [Addr.add_lit] at hc
        rw [← List.getD_eq_getElem?_getD] at hb
        refine ⟨(zs.getD i 0).toNat, by omega, ?_⟩
        rw [hc, Int.toNat_of_nonneg (by omega)]
end Go.Proofs.YtlonpaigfalbkaaDoor.Hub
