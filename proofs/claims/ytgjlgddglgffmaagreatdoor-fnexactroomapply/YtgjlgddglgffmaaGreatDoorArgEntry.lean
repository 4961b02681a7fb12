/-
  A struct of nine fields of one cell each, by value, opened; and an entry of the law's own type.
-/
import Derived.Test.YtgjlgddglgffmaaGreatDoorEntryImpl
import Derived.Lib.SmallJoins
namespace Go.Proofs.YtgjlgddglgffmaaGreatDoor.Hub
open Go.ChangeShapes Go.WideShapes Go.RowKit Go.Deep Go.WideElems Go.Maps
set_option linter.unusedVariables false

theorem array9 {α : Type} {cs : Array α} (h : cs.size = 9) : ∃ c0 c1 c2 c3 c4 c5 c6 c7 c8, cs = #[c0, c1, c2, c3, c4, c5, c6, c7, c8] := by
  obtain ⟨l⟩ := cs
  match l, h with
  | [c0, c1, c2, c3, c4, c5, c6, c7, c8], _ => exact ⟨c0, c1, c2, c3, c4, c5, c6, c7, c8, rfl⟩
theorem at_some {α : Type} {l : List α} {j : Nat} (h : j < l.length) : ∃ y, l[j]? = some y := ⟨l[j], List.getElem?_eq_getElem h⟩
theorem open_agg9 {H : Type} {enc : TypeId × Value → H} {P : Program} {w : World} {base : Nat} {spare : Nat → Bool} {held : Bool} {r : Reach} {b0 : Nat} {t : TypeId} {f0 f1 f2 f3 f4 f5 f6 f7 f8 : Field} {v : Value} {d : DataW H} {p : List MemPlace}
    (hs : P.underlying t = some (.struct #[f0, f1, f2, f3, f4, f5, f6, f7, f8])) (hone : oneCellFields P #[f0, f1, f2, f3, f4, f5, f6, f7, f8] = true) (hC : P.cellsOf t = 9)
    (hv : Value.okWide P w r b0 t v) (h : DataW.Trod enc P w base spare held t v d p) :
    ∃ (v0 v1 v2 v3 v4 v5 v6 v7 v8 : Value) (n : Nat), v = .agg #[v0, v1, v2, v3, v4, v5, v6, v7, v8] ∧ (∃ y, DataW.trod enc P w base spare held n f0.type [v0] = some y) ∧ (∃ y, DataW.trod enc P w base spare held n f1.type [v1] = some y) ∧ (∃ y, DataW.trod enc P w base spare held n f2.type [v2] = some y) ∧ (∃ y, DataW.trod enc P w base spare held n f3.type [v3] = some y) ∧ (∃ y, DataW.trod enc P w base spare held n f4.type [v4] = some y) ∧ (∃ y, DataW.trod enc P w base spare held n f5.type [v5] = some y) ∧ (∃ y, DataW.trod enc P w base spare held n f6.type [v6] = some y) ∧ (∃ y, DataW.trod enc P w base spare held n f7.type [v7] = some y) ∧ (∃ y, DataW.trod enc P w base spare held n f8.type [v8] = some y) := by
  obtain ⟨cs, rfl, hsz⟩ := okWide_struct hs hv
  obtain ⟨v0, v1, v2, v3, v4, v5, v6, v7, v8, rfl⟩ := array9 (hsz.trans hC)
  obtain ⟨fuel, hf⟩ := h
  obtain ⟨xs, n, _, _, _, hlen, hF⟩ := DataW.trod_struct hs hf
  have hl : xs.length = 9 := hlen
  obtain ⟨o0, k0⟩ := hone_of hone 0 f0 rfl
  obtain ⟨y0, e0⟩ := at_some (l := xs) (j := 0) (by omega)
  have g0 := (hF 0 f0 rfl).trans e0
  obtain ⟨o1, k1⟩ := hone_of hone 1 f1 rfl
  obtain ⟨y1, e1⟩ := at_some (l := xs) (j := 1) (by omega)
  have g1 := (hF 1 f1 rfl).trans e1
  obtain ⟨o2, k2⟩ := hone_of hone 2 f2 rfl
  obtain ⟨y2, e2⟩ := at_some (l := xs) (j := 2) (by omega)
  have g2 := (hF 2 f2 rfl).trans e2
  obtain ⟨o3, k3⟩ := hone_of hone 3 f3 rfl
  obtain ⟨y3, e3⟩ := at_some (l := xs) (j := 3) (by omega)
  have g3 := (hF 3 f3 rfl).trans e3
  obtain ⟨o4, k4⟩ := hone_of hone 4 f4 rfl
  obtain ⟨y4, e4⟩ := at_some (l := xs) (j := 4) (by omega)
  have g4 := (hF 4 f4 rfl).trans e4
  obtain ⟨o5, k5⟩ := hone_of hone 5 f5 rfl
  obtain ⟨y5, e5⟩ := at_some (l := xs) (j := 5) (by omega)
  have g5 := (hF 5 f5 rfl).trans e5
  obtain ⟨o6, k6⟩ := hone_of hone 6 f6 rfl
  obtain ⟨y6, e6⟩ := at_some (l := xs) (j := 6) (by omega)
  have g6 := (hF 6 f6 rfl).trans e6
  obtain ⟨o7, k7⟩ := hone_of hone 7 f7 rfl
  obtain ⟨y7, e7⟩ := at_some (l := xs) (j := 7) (by omega)
  have g7 := (hF 7 f7 rfl).trans e7
  obtain ⟨o8, k8⟩ := hone_of hone 8 f8 rfl
  obtain ⟨y8, e8⟩ := at_some (l := xs) (j := 8) (by omega)
  have g8 := (hF 8 f8 rfl).trans e8
  exact ⟨v0, v1, v2, v3, v4, v5, v6, v7, v8, n, rfl, ⟨y0, by simpa [Value.cells, o0, k0] using g0⟩, ⟨y1, by simpa [Value.cells, o1, k1] using g1⟩, ⟨y2, by simpa [Value.cells, o2, k2] using g2⟩, ⟨y3, by simpa [Value.cells, o3, k3] using g3⟩, ⟨y4, by simpa [Value.cells, o4, k4] using g4⟩, ⟨y5, by simpa [Value.cells, o5, k5] using g5⟩, ⟨y6, by simpa [Value.cells, o6, k6] using g6⟩, ⟨y7, by simpa [Value.cells, o7, k7] using g7⟩, ⟨y8, by simpa [Value.cells, o8, k8] using g8⟩⟩

set_option maxRecDepth 100000 in
theorem open_entry {H : Type} {enc : TypeId × Value → H} {w : World} {base : Nat} {spare : Nat → Bool} {held : Bool} {r : Reach} {b0 : Nat} {v : Value} {d : DataW H} {p : List MemPlace}
    (hv : Value.okWide Tryz.prog w r b0 27 v) (h : DataW.Trod enc Tryz.prog w base spare held 27 v d p) :
    ∃ (r : ByteArray) (q k : Int) (u n t i f : ByteArray) (m : Int), v = entV r q k u n t i f m ∧ r.size ≤ maxLen ∧ u.size ≤ maxLen ∧ n.size ≤ maxLen ∧ t.size ≤ maxLen ∧ i.size ≤ maxLen ∧ f.size ≤ maxLen := by
  obtain ⟨v0, v1, v2, v3, v4, v5, v6, v7, v8, z, rfl, ⟨y0, t0⟩, ⟨y1, t1⟩, ⟨y2, t2⟩, ⟨y3, t3⟩, ⟨y4, t4⟩, ⟨y5, t5⟩, ⟨y6, t6⟩, ⟨y7, t7⟩, ⟨y8, t8⟩⟩ := open_agg9 Tryz.underlying27 (by kernel_rfl) (by kernel_rfl) hv h
  obtain ⟨s0, q0, _, w0⟩ := DataW.trod_string Tryz.underlying9 t0
  obtain rfl : v0 = .string s0 := by simpa using q0
  obtain ⟨s1, q1, _⟩ := DataW.trod_int Tryz.underlying3 t1
  obtain rfl : v1 = .int .i64 s1 := by simpa using q1
  obtain ⟨s2, q2, _⟩ := DataW.trod_int Tryz.underlying3 t2
  obtain rfl : v2 = .int .i64 s2 := by simpa using q2
  obtain ⟨s3, q3, _, w3⟩ := DataW.trod_string Tryz.underlying9 t3
  obtain rfl : v3 = .string s3 := by simpa using q3
  obtain ⟨s4, q4, _, w4⟩ := DataW.trod_string Tryz.underlying9 t4
  obtain rfl : v4 = .string s4 := by simpa using q4
  obtain ⟨s5, q5, _, w5⟩ := DataW.trod_string Tryz.underlying9 t5
  obtain rfl : v5 = .string s5 := by simpa using q5
  obtain ⟨s6, q6, _, w6⟩ := DataW.trod_string Tryz.underlying9 t6
  obtain rfl : v6 = .string s6 := by simpa using q6
  obtain ⟨s7, q7, _, w7⟩ := DataW.trod_string Tryz.underlying9 t7
  obtain rfl : v7 = .string s7 := by simpa using q7
  obtain ⟨s8, q8, _⟩ := DataW.trod_int Tryz.underlying3 t8
  obtain rfl : v8 = .int .i64 s8 := by simpa using q8
  exact ⟨s0, s1, s2, s3, s4, s5, s6, s7, s8, rfl, w0, w3, w4, w5, w6, w7⟩
end Go.Proofs.YtgjlgddglgffmaaGreatDoor.Hub
