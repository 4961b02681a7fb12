/-
  A line that came in as an argument of the law's own type: its texts lie in memory.
-/
import Derived.Test.YtpicccdlaiaemabLineBase
import Derived.Lib.SmallJoins
import Derived.Deep.Slices
namespace Go.Proofs.Ytpicccdlaiaemab.Hub
open Go.ChangeShapes Go.WideShapes Go.RowKit Go.Deep Go.WideElems Go.Maps
set_option linter.unusedVariables false
set_option linter.constructorNameAsVariable false

theorem array4 {α : Type} {cs : Array α} (h : cs.size = 4) : ∃ c0 c1 c2 c3, cs = #[c0, c1, c2, c3] := by
  obtain ⟨l⟩ := cs
  match l, h with
  | [c0, c1, c2, c3], _ => exact ⟨c0, c1, c2, c3, rfl⟩
theorem at_some4 {α : Type} {l : List α} {j : Nat} (h : j < l.length) : ∃ y, l[j]? = some y := ⟨l[j], List.getElem?_eq_getElem h⟩
theorem open_agg4 {H : Type} {enc : TypeId × Value → H} {P : Program} {w : World} {base : Nat} {spare : Nat → Bool} {held : Bool} {r : Reach} {b0 : Nat} {t : TypeId} {f0 f1 f2 f3 : Field} {v : Value} {d : DataW H} {p : List MemPlace}
    (hs : P.underlying t = some (.struct #[f0, f1, f2, f3])) (hone : oneCellFields P #[f0, f1, f2, f3] = true) (hC : P.cellsOf t = 4)
    (hv : Value.okWide P w r b0 t v) (h : DataW.Trod enc P w base spare held t v d p) :
    ∃ (v0 v1 v2 v3 : Value) (n : Nat), v = .agg #[v0, v1, v2, v3] ∧ (∃ y, DataW.trod enc P w base spare held n f0.type [v0] = some y) ∧ (∃ y, DataW.trod enc P w base spare held n f1.type [v1] = some y) ∧ (∃ y, DataW.trod enc P w base spare held n f2.type [v2] = some y) ∧ (∃ y, DataW.trod enc P w base spare held n f3.type [v3] = some y) := by
  obtain ⟨cs, rfl, hsz⟩ := okWide_struct hs hv
  obtain ⟨v0, v1, v2, v3, rfl⟩ := array4 (hsz.trans hC)
  obtain ⟨fuel, hf⟩ := h
  obtain ⟨xs, n, _, _, _, hlen, hF⟩ := DataW.trod_struct hs hf
  have hl : xs.length = 4 := hlen
  obtain ⟨o0, k0⟩ := hone_of hone 0 f0 rfl
  obtain ⟨y0, e0⟩ := at_some4 (l := xs) (j := 0) (by omega)
  have g0 := (hF 0 f0 rfl).trans e0
  obtain ⟨o1, k1⟩ := hone_of hone 1 f1 rfl
  obtain ⟨y1, e1⟩ := at_some4 (l := xs) (j := 1) (by omega)
  have g1 := (hF 1 f1 rfl).trans e1
  obtain ⟨o2, k2⟩ := hone_of hone 2 f2 rfl
  obtain ⟨y2, e2⟩ := at_some4 (l := xs) (j := 2) (by omega)
  have g2 := (hF 2 f2 rfl).trans e2
  obtain ⟨o3, k3⟩ := hone_of hone 3 f3 rfl
  obtain ⟨y3, e3⟩ := at_some4 (l := xs) (j := 3) (by omega)
  have g3 := (hF 3 f3 rfl).trans e3
  exact ⟨v0, v1, v2, v3, n, rfl, ⟨y0, by simpa [Value.cells, o0, k0] using g0⟩, ⟨y1, by simpa [Value.cells, o1, k1] using g1⟩, ⟨y2, by simpa [Value.cells, o2, k2] using g2⟩, ⟨y3, by simpa [Value.cells, o3, k3] using g3⟩⟩

theorem open_strs {H : Type} {enc : TypeId × Value → H} {W : World} {fuel : Nat} {v : Value} {y : DataW H × List MemPlace} (h : DataW.trod enc Try.prog W 0 (fun _ => true) true fuel 22 [v] = some y) :
    ∃ (n : Nat) (S : Nat → ByteArray), StrAt W v n S ∧ ∀ j, j < n → (S j).size ≤ maxLen := by
  have ce : Try.prog.cellsOf 9 = 1 := by kernel_rfl
  rcases open_slice Try.underlying22 h with ⟨hcs, _⟩ | ⟨a, len, cap, m, n, D, Pl, hcs, _, hl, hm, hmm, _, hx⟩
  · obtain rfl : v = .slice none 0 0 := by simpa using hcs
    exact ⟨0, fun _ => ⟨#[]⟩, StrAt.nil _ _, fun j hj => absurd hj (by omega)⟩
  · obtain rfl : v = .slice (some a) len cap := by simpa using hcs
    simp only [if_true] at hmm
    subst hmm
    have each : ∀ i, i < len → ∃ q : ByteArray, W.cell? (a.add i) = some (.string q) ∧ q.size ≤ maxLen := by
      intro i hi
      obtain ⟨cs', h1, h2⟩ := hx i (by omega)
      rw [ce, Nat.mul_one] at h1
      obtain ⟨_, hlen, hcell⟩ := World.cells?_some h1
      match cs', hlen with
      | [v0], _ =>
        obtain ⟨s0, q0, _, w0⟩ := DataW.trod_string Try.underlying9 h2
        obtain rfl : v0 = .string s0 := by simpa using q0
        have e0 := hcell 0 (by omega)
        exact ⟨s0, by simpa [Addr.add] using e0, w0⟩
    obtain ⟨q, hq⟩ := choose_lt each
    refine ⟨len, q, ⟨some a, m, rfl, hl, ⟨hm, fun e => by cases e⟩, fun j hj => ?_⟩, fun j hj => (hq j hj).2⟩
    obtain ⟨ab, ao, spot⟩ := a
    have k0 := (hq j hj).1
    have hspot : spot = none := by
      have c0 := (hq 0 (by omega)).1
      simpa [Addr.add] using World.cell?_spot c0
    subst hspot
    rw [Addr.add_lit] at k0
    obtain ⟨ob, hob, _⟩ := cells_of_cell k0
    exact ⟨ab, ao, rfl, (Array.getElem?_eq_some_iff.1 hob).1, k0⟩

set_option maxRecDepth 100000 in
theorem open_line {H : Type} {enc : TypeId × Value → H} {W : World} {r : Reach} {b0 : Nat} {v : Value} {d : DataW H} {p : List MemPlace}
    (hv : Value.okWide Try.prog W r b0 24 v) (h : DataW.Trod enc Try.prog W 0 (fun _ => true) true 24 v d p) :
    ∃ (b g : Int) (o : Bool) (q : Value) (n : Nat) (S : Nat → ByteArray), v = lineV b q g o ∧ StrAt W q n S ∧ (∀ j, j < n → (S j).size ≤ maxLen) ∧ (-9223372036854775808 ≤ b ∧ b ≤ 9223372036854775807) ∧ (-9223372036854775808 ≤ g ∧ g ≤ 9223372036854775807) := by
  obtain ⟨v0, v1, v2, v3, m, rfl, ⟨y0, t0⟩, ⟨y1, t1⟩, ⟨y2, t2⟩, ⟨y3, t3⟩⟩ := open_agg4 Try.underlying24 (by kernel_rfl) (by kernel_rfl) hv h
  obtain ⟨s0, q0, _, w0⟩ := DataW.trod_int Try.underlying3 t0
  obtain rfl : v0 = .int .i64 s0 := by simpa using q0
  obtain ⟨s2, q2, _, w2⟩ := DataW.trod_int Try.underlying3 t2
  obtain rfl : v2 = .int .i64 s2 := by simpa using q2
  obtain ⟨s3, q3, _⟩ := DataW.trod_bool Try.underlying4 t3
  obtain rfl : v3 = .bool s3 := by simpa using q3
  obtain ⟨n, S, hm, hms⟩ := open_strs t1
  have h0 : IntKind.i64.min ≤ s0 ∧ s0 ≤ 9223372036854775807 := by simpa [Lit.wf] using w0
  have h2 : IntKind.i64.min ≤ s2 ∧ s2 ≤ 9223372036854775807 := by simpa [Lit.wf] using w2
  exact ⟨s0, s2, s3, v1, n, S, rfl, hm, hms, ⟨h0.1, h0.2⟩, ⟨h2.1, h2.2⟩⟩
end Go.Proofs.Ytpicccdlaiaemab.Hub
