/-
  A list of entrys that came in as an argument of the law's own type.
-/
import Derived.Test.YtkmagkpieihcgaaEntBase
import Derived.Lib.SmallJoins
import Derived.Deep.Slices
namespace Go.Proofs.Ytkmagkpieihcgaa.Hub
open Go.ChangeShapes Go.WideShapes Go.RowKit Go.Deep Go.WideElems Go.Maps
set_option linter.unusedVariables false
set_option linter.constructorNameAsVariable false
set_option linter.unusedSimpArgs false

set_option maxRecDepth 100000 in
theorem Entone {H : Type} {enc : TypeId × Value → H} {W : World} {n : Nat} {a : Addr} {cs' : List Value} {y : DataW H × List MemPlace} (h1 : W.cells? 0 a 9 = some cs') (h2 : DataW.trod enc Try.prog W 0 (fun _ => true) true n 32 cs' = some y) :
    ∃ q : EntX, (W.cell? a = some (.string q.room) ∧ W.cell? (a.add 1) = some (.int .i64 q.seq) ∧ W.cell? (a.add 2) = some (.int .i64 q.kind) ∧ W.cell? (a.add 3) = some (.string q.user) ∧ W.cell? (a.add 4) = some (.string q.nick) ∧ W.cell? (a.add 5) = some (.string q.text) ∧ W.cell? (a.add 6) = some (.string q.id) ∧ W.cell? (a.add 7) = some (.string q.ref) ∧ W.cell? (a.add 8) = some (.int .i64 q.num)) ∧ q.room.size ≤ maxLen ∧ q.user.size ≤ maxLen ∧ q.nick.size ≤ maxLen ∧ q.text.size ≤ maxLen ∧ q.id.size ≤ maxLen ∧ q.ref.size ≤ maxLen ∧ (Lit.int .i64 q.seq).wf = true ∧ (Lit.int .i64 q.kind).wf = true ∧ (Lit.int .i64 q.num).wf = true := by
  obtain ⟨_, hlen, hcell⟩ := World.cells?_some h1
  obtain ⟨xs, k, _, _, _, hxl, hf⟩ := DataW.trod_struct Try.underlying32 h2
  match xs, hxl, cs', hlen with
  | [y0, y1, y2, y3, y4, y5, y6, y7, y8], _, [v0, v1, v2, v3, v4, v5, v6, v7, v8], _ =>
    have g0 := hf 0 _ rfl
    have g1 := hf 1 _ rfl
    have g2 := hf 2 _ rfl
    have g3 := hf 3 _ rfl
    have g4 := hf 4 _ rfl
    have g5 := hf 5 _ rfl
    have g6 := hf 6 _ rfl
    have g7 := hf 7 _ rfl
    have g8 := hf 8 _ rfl
    have c9 : Try.prog.cellsOf 9 = 1 := by kernel_rfl
    have c3 : Try.prog.cellsOf 3 = 1 := by kernel_rfl
    have c4 : Try.prog.cellsOf 4 = 1 := by kernel_rfl
    simp [c9, c3, c4] at g0 g1 g2 g3 g4 g5 g6 g7 g8
    obtain ⟨s0, q0, _, w0⟩ := DataW.trod_string Try.underlying9 g0
    obtain ⟨s1, q1, _, w1⟩ := DataW.trod_int Try.underlying3 g1
    obtain ⟨s2, q2, _, w2⟩ := DataW.trod_int Try.underlying3 g2
    obtain ⟨s3, q3, _, w3⟩ := DataW.trod_string Try.underlying9 g3
    obtain ⟨s4, q4, _, w4⟩ := DataW.trod_string Try.underlying9 g4
    obtain ⟨s5, q5, _, w5⟩ := DataW.trod_string Try.underlying9 g5
    obtain ⟨s6, q6, _, w6⟩ := DataW.trod_string Try.underlying9 g6
    obtain ⟨s7, q7, _, w7⟩ := DataW.trod_string Try.underlying9 g7
    obtain ⟨s8, q8, _, w8⟩ := DataW.trod_int Try.underlying3 g8
    obtain rfl : v0 = .string s0 := by simpa using q0
    obtain rfl : v1 = .int .i64 s1 := by simpa using q1
    obtain rfl : v2 = .int .i64 s2 := by simpa using q2
    obtain rfl : v3 = .string s3 := by simpa using q3
    obtain rfl : v4 = .string s4 := by simpa using q4
    obtain rfl : v5 = .string s5 := by simpa using q5
    obtain rfl : v6 = .string s6 := by simpa using q6
    obtain rfl : v7 = .string s7 := by simpa using q7
    obtain rfl : v8 = .int .i64 s8 := by simpa using q8
    have e0 := hcell 0 (by omega)
    have e1 := hcell 1 (by omega)
    have e2 := hcell 2 (by omega)
    have e3 := hcell 3 (by omega)
    have e4 := hcell 4 (by omega)
    have e5 := hcell 5 (by omega)
    have e6 := hcell 6 (by omega)
    have e7 := hcell 7 (by omega)
    have e8 := hcell 8 (by omega)
    exact ⟨⟨s0, s1, s2, s3, s4, s5, s6, s7, s8⟩, ⟨by simpa [Addr.add] using e0, by simpa using e1, by simpa using e2, by simpa using e3, by simpa using e4, by simpa using e5, by simpa using e6, by simpa using e7, by simpa using e8⟩, w0, w3, w4, w5, w6, w7, w1, w2, w8⟩
set_option maxRecDepth 100000 in
theorem open_Entlist {H : Type} {enc : TypeId × Value → H} {W : World} {fuel : Nat} {v : Value} {y : DataW H × List MemPlace} (h : DataW.trod enc Try.prog W 0 (fun _ => true) true fuel 22 [v] = some y) :
    ∃ (n : Nat) (E : Nat → EntX), EntsAt W v n E ∧ ∀ j, j < n → (E j).room.size ≤ maxLen ∧ (E j).user.size ≤ maxLen ∧ (E j).nick.size ≤ maxLen ∧ (E j).text.size ≤ maxLen ∧ (E j).id.size ≤ maxLen ∧ (E j).ref.size ≤ maxLen ∧ (Lit.int .i64 (E j).seq).wf = true ∧ (Lit.int .i64 (E j).kind).wf = true ∧ (Lit.int .i64 (E j).num).wf = true := by
  have ce : Try.prog.cellsOf 32 = 9 := by kernel_rfl
  rcases open_slice Try.underlying22 h with ⟨hcs, _⟩ | ⟨a, len, cap, m, n, E, Pl, hcs, _, hl, hm, hmm, _, hx⟩
  · obtain rfl : v = .slice none 0 0 := by simpa using hcs
    exact ⟨0, fun _ => ⟨⟨#[]⟩, 0, 0, ⟨#[]⟩, ⟨#[]⟩, ⟨#[]⟩, ⟨#[]⟩, ⟨#[]⟩, 0⟩, ⟨none, 0, rfl, Nat.le_refl _, Nat.zero_le _, fun j hj => absurd hj (by omega)⟩, fun j hj => absurd hj (by omega)⟩
  · obtain rfl : v = .slice (some a) len cap := by simpa using hcs
    simp only [if_true] at hmm
    subst hmm
    have each : ∀ i, i < len → ∃ q : EntX, (W.cell? (a.add (i * 9)) = some (.string q.room) ∧ W.cell? ((a.add (i * 9)).add 1) = some (.int .i64 q.seq) ∧ W.cell? ((a.add (i * 9)).add 2) = some (.int .i64 q.kind) ∧ W.cell? ((a.add (i * 9)).add 3) = some (.string q.user) ∧ W.cell? ((a.add (i * 9)).add 4) = some (.string q.nick) ∧ W.cell? ((a.add (i * 9)).add 5) = some (.string q.text) ∧ W.cell? ((a.add (i * 9)).add 6) = some (.string q.id) ∧ W.cell? ((a.add (i * 9)).add 7) = some (.string q.ref) ∧ W.cell? ((a.add (i * 9)).add 8) = some (.int .i64 q.num)) ∧ q.room.size ≤ maxLen ∧ q.user.size ≤ maxLen ∧ q.nick.size ≤ maxLen ∧ q.text.size ≤ maxLen ∧ q.id.size ≤ maxLen ∧ q.ref.size ≤ maxLen ∧ (Lit.int .i64 q.seq).wf = true ∧ (Lit.int .i64 q.kind).wf = true ∧ (Lit.int .i64 q.num).wf = true := by
      intro i hi
      obtain ⟨cs', h1, h2⟩ := hx i (by omega)
      rw [ce] at h1
      obtain ⟨q, hq⟩ := Entone h1 h2
      exact ⟨q, hq⟩
    haveI : Inhabited EntX := ⟨⟨⟨#[]⟩, 0, 0, ⟨#[]⟩, ⟨#[]⟩, ⟨#[]⟩, ⟨#[]⟩, ⟨#[]⟩, 0⟩⟩
    obtain ⟨q, hq⟩ := choose_lt each
    refine ⟨len, q, ⟨some a, m, rfl, hl, hm, fun j hj => ?_⟩, fun j hj => (hq j hj).2⟩
    obtain ⟨ab, ao, spot⟩ := a
    obtain ⟨k0, k1, k2, k3, k4, k5, k6, k7, k8⟩ := (hq j hj).1
    have hspot : spot = none := by
      have c0 := (hq 0 (by omega)).1.1
      simpa [Addr.add] using World.cell?_spot c0
    subst hspot
    rw [Addr.add_lit] at k0
    rw [Addr.add_lit, Addr.add_lit] at k1 k2 k3 k4 k5 k6 k7 k8
    obtain ⟨ob, hob, _⟩ := cells_of_cell k0
    exact ⟨ab, ao, rfl, (Array.getElem?_eq_some_iff.1 hob).1, k0, k1, k2, k3, k4, k5, k6, k7, k8⟩

set_option maxRecDepth 100000 in
theorem open_Ents {H : Type} {enc : TypeId × Value → H} {W : World} {base : Nat} {v1 : Value} {d1 : DataW H} {p1 : List MemPlace} (hval : Value.okWide Try.prog W .any base 22 v1) (h1 : DataW.Trod enc Try.prog W 0 (fun _ => true) true 22 v1 d1 p1) :
    ∃ (n : Nat) (E : Nat → EntX), EntsAt W v1 n E ∧ ∀ j, j < n → (E j).room.size ≤ maxLen ∧ (E j).user.size ≤ maxLen ∧ (E j).nick.size ≤ maxLen ∧ (E j).text.size ≤ maxLen ∧ (E j).id.size ≤ maxLen ∧ (E j).ref.size ≤ maxLen ∧ (Lit.int .i64 (E j).seq).wf = true ∧ (Lit.int .i64 (E j).kind).wf = true ∧ (Lit.int .i64 (E j).num).wf = true := by
  obtain ⟨a1, len, cap, rfl⟩ := okWide_slice Try.underlying22 hval
  obtain ⟨fuel, hf⟩ := h1
  exact open_Entlist hf
end Go.Proofs.Ytkmagkpieihcgaa.Hub
