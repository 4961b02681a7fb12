/-
  A list of steps that came in as an argument of the law's own type.
-/
import Derived.Test.YtglbjibilllopaaStepBase
import Derived.Lib.SmallJoins
import Derived.Deep.Slices
namespace Go.Proofs.Ytglbjibilllopaa.Hub
open Go.ChangeShapes Go.WideShapes Go.RowKit Go.Deep Go.WideElems Go.Maps
set_option linter.unusedVariables false
set_option linter.constructorNameAsVariable false

set_option maxRecDepth 100000 in
theorem step_one {H : Type} {enc : TypeId × Value → H} {W : World} {n : Nat} {a : Addr} {cs' : List Value} {y : DataW H × List MemPlace} (h1 : W.cells? 0 a 4 = some cs') (h2 : DataW.trod enc Try.prog W 0 (fun _ => true) true n 32 cs' = some y) :
    ∃ q : Bool × ByteArray × ByteArray × ByteArray, W.cell? a = some (.bool q.1) ∧ W.cell? (a.add 1) = some (.string q.2.1) ∧ W.cell? (a.add 2) = some (.string q.2.2.1) ∧ W.cell? (a.add 3) = some (.string q.2.2.2) ∧ q.2.1.size ≤ maxLen ∧ q.2.2.1.size ≤ maxLen ∧ q.2.2.2.size ≤ maxLen := by
  obtain ⟨_, hlen, hcell⟩ := World.cells?_some h1
  obtain ⟨xs, k, _, _, _, hxl, hf⟩ := DataW.trod_struct Try.underlying32 h2
  match xs, hxl, cs', hlen with
  | [y0, y1, y2, y3], _, [v0, v1, v2, v3], _ =>
    have g0 := hf 0 _ rfl
    have g1 := hf 1 _ rfl
    have g2 := hf 2 _ rfl
    have g3 := hf 3 _ rfl
    have c9 : Try.prog.cellsOf 9 = 1 := by kernel_rfl
    have c4 : Try.prog.cellsOf 4 = 1 := by kernel_rfl
    simp [c9, c4] at g0 g1 g2 g3
    obtain ⟨s0, q0, _⟩ := DataW.trod_bool Try.underlying4 g0
    obtain ⟨s1, q1, _, w1⟩ := DataW.trod_string Try.underlying9 g1
    obtain ⟨s2, q2, _, w2⟩ := DataW.trod_string Try.underlying9 g2
    obtain ⟨s3, q3, _, w3⟩ := DataW.trod_string Try.underlying9 g3
    obtain rfl : v0 = .bool s0 := by simpa using q0
    obtain rfl : v1 = .string s1 := by simpa using q1
    obtain rfl : v2 = .string s2 := by simpa using q2
    obtain rfl : v3 = .string s3 := by simpa using q3
    have e0 := hcell 0 (by omega)
    have e1 := hcell 1 (by omega)
    have e2 := hcell 2 (by omega)
    have e3 := hcell 3 (by omega)
    exact ⟨(s0, s1, s2, s3), by simpa [Addr.add] using e0, by simpa using e1, by simpa using e2, by simpa using e3, w1, w2, w3⟩
set_option maxRecDepth 100000 in
theorem open_list {H : Type} {enc : TypeId × Value → H} {W : World} {fuel : Nat} {v : Value} {y : DataW H × List MemPlace} (h : DataW.trod enc Try.prog W 0 (fun _ => true) true fuel 22 [v] = some y) :
    ∃ (n : Nat) (D : Nat → Bool) (N A T : Nat → ByteArray), StepAt W v n D N A T ∧ ∀ j, j < n → (N j).size ≤ maxLen ∧ (A j).size ≤ maxLen ∧ (T j).size ≤ maxLen := by
  have ce : Try.prog.cellsOf 32 = 4 := by kernel_rfl
  rcases open_slice Try.underlying22 h with ⟨hcs, _⟩ | ⟨a, len, cap, m, n, E, Pl, hcs, _, hl, hm, hmm, _, hx⟩
  · obtain rfl : v = .slice none 0 0 := by simpa using hcs
    exact ⟨0, fun _ => false, fun _ => ⟨#[]⟩, fun _ => ⟨#[]⟩, fun _ => ⟨#[]⟩, ⟨none, 0, rfl, Nat.le_refl _, Nat.zero_le _, fun j hj => absurd hj (by omega)⟩, fun j hj => absurd hj (by omega)⟩
  · obtain rfl : v = .slice (some a) len cap := by simpa using hcs
    simp only [if_true] at hmm
    subst hmm
    have each : ∀ i, i < len → ∃ q : Bool × ByteArray × ByteArray × ByteArray, W.cell? (a.add (i * 4)) = some (.bool q.1) ∧ W.cell? ((a.add (i * 4)).add 1) = some (.string q.2.1) ∧ W.cell? ((a.add (i * 4)).add 2) = some (.string q.2.2.1) ∧ W.cell? ((a.add (i * 4)).add 3) = some (.string q.2.2.2) ∧ q.2.1.size ≤ maxLen ∧ q.2.2.1.size ≤ maxLen ∧ q.2.2.2.size ≤ maxLen := by
      intro i hi
      obtain ⟨cs', h1, h2⟩ := hx i (by omega)
      rw [ce] at h1
      obtain ⟨q, hq⟩ := step_one h1 h2
      exact ⟨q, hq⟩
    obtain ⟨q, hq⟩ := choose_lt each
    refine ⟨len, fun i => (q i).1, fun i => (q i).2.1, fun i => (q i).2.2.1, fun i => (q i).2.2.2, ⟨some a, m, rfl, hl, hm, fun j hj => ?_⟩, fun j hj => (hq j hj).2.2.2.2⟩
    obtain ⟨ab, ao, spot⟩ := a
    have k0 := (hq j hj).1
    have hspot : spot = none := by
      have c0 := (hq 0 (by omega)).1
      simpa [Addr.add] using World.cell?_spot c0
    subst hspot
    rw [Addr.add_lit] at k0
    obtain ⟨ob, hob, _⟩ := cells_of_cell k0
    refine ⟨ab, ao, rfl, (Array.getElem?_eq_some_iff.1 hob).1, k0, by have := (hq j hj).2.1; rw [Addr.add_lit, Addr.add_lit] at this; exact this, by have := (hq j hj).2.2.1; rw [Addr.add_lit, Addr.add_lit] at this; exact this, by have := (hq j hj).2.2.2.1; rw [Addr.add_lit, Addr.add_lit] at this; exact this⟩

set_option maxRecDepth 100000 in
theorem open_steps {H : Type} {enc : TypeId × Value → H} {W : World} {base : Nat} {v1 : Value} {d1 : DataW H} {p1 : List MemPlace} (hval : Value.okWide Try.prog W .any base 22 v1) (h1 : DataW.Trod enc Try.prog W 0 (fun _ => true) true 22 v1 d1 p1) :
    ∃ (n : Nat) (D : Nat → Bool) (N A T : Nat → ByteArray), StepAt W v1 n D N A T ∧ ∀ j, j < n → (N j).size ≤ maxLen ∧ (A j).size ≤ maxLen ∧ (T j).size ≤ maxLen := by
  obtain ⟨a1, len, cap, rfl⟩ := okWide_slice Try.underlying22 hval
  obtain ⟨fuel, hf⟩ := h1
  exact open_list hf
end Go.Proofs.Ytglbjibilllopaa.Hub
