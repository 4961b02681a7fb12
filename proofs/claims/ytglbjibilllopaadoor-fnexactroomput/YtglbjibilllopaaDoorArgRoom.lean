/-
  A room that came in as an argument of the law's own type: its members and ranks lie in memory.
-/
import Derived.Test.YtglbjibilllopaaDoorRoomEq
import Derived.Lib.SmallJoins
import Derived.Deep.Slices
namespace Go.Proofs.YtglbjibilllopaaDoor.Hub
open Go.ChangeShapes Go.WideShapes Go.RowKit Go.Deep Go.WideElems Go.Maps
set_option linter.unusedVariables false
set_option linter.constructorNameAsVariable false

theorem array5 {α : Type} {cs : Array α} (h : cs.size = 5) : ∃ c0 c1 c2 c3 c4, cs = #[c0, c1, c2, c3, c4] := by
  obtain ⟨l⟩ := cs
  match l, h with
  | [c0, c1, c2, c3, c4], _ => exact ⟨c0, c1, c2, c3, c4, rfl⟩
theorem at_some5 {α : Type} {l : List α} {j : Nat} (h : j < l.length) : ∃ y, l[j]? = some y := ⟨l[j], List.getElem?_eq_getElem h⟩
theorem open_agg5 {H : Type} {enc : TypeId × Value → H} {P : Program} {w : World} {base : Nat} {spare : Nat → Bool} {held : Bool} {r : Reach} {b0 : Nat} {t : TypeId} {f0 f1 f2 f3 f4 : Field} {v : Value} {d : DataW H} {p : List MemPlace}
    (hs : P.underlying t = some (.struct #[f0, f1, f2, f3, f4])) (hone : oneCellFields P #[f0, f1, f2, f3, f4] = true) (hC : P.cellsOf t = 5)
    (hv : Value.okWide P w r b0 t v) (h : DataW.Trod enc P w base spare held t v d p) :
    ∃ (v0 v1 v2 v3 v4 : Value) (n : Nat), v = .agg #[v0, v1, v2, v3, v4] ∧ (∃ y, DataW.trod enc P w base spare held n f0.type [v0] = some y) ∧ (∃ y, DataW.trod enc P w base spare held n f1.type [v1] = some y) ∧ (∃ y, DataW.trod enc P w base spare held n f2.type [v2] = some y) ∧ (∃ y, DataW.trod enc P w base spare held n f3.type [v3] = some y) ∧ (∃ y, DataW.trod enc P w base spare held n f4.type [v4] = some y) := by
  obtain ⟨cs, rfl, hsz⟩ := okWide_struct hs hv
  obtain ⟨v0, v1, v2, v3, v4, rfl⟩ := array5 (hsz.trans hC)
  obtain ⟨fuel, hf⟩ := h
  obtain ⟨xs, n, _, _, _, hlen, hF⟩ := DataW.trod_struct hs hf
  have hl : xs.length = 5 := hlen
  obtain ⟨o0, k0⟩ := hone_of hone 0 f0 rfl
  obtain ⟨y0, e0⟩ := at_some5 (l := xs) (j := 0) (by omega)
  have g0 := (hF 0 f0 rfl).trans e0
  obtain ⟨o1, k1⟩ := hone_of hone 1 f1 rfl
  obtain ⟨y1, e1⟩ := at_some5 (l := xs) (j := 1) (by omega)
  have g1 := (hF 1 f1 rfl).trans e1
  obtain ⟨o2, k2⟩ := hone_of hone 2 f2 rfl
  obtain ⟨y2, e2⟩ := at_some5 (l := xs) (j := 2) (by omega)
  have g2 := (hF 2 f2 rfl).trans e2
  obtain ⟨o3, k3⟩ := hone_of hone 3 f3 rfl
  obtain ⟨y3, e3⟩ := at_some5 (l := xs) (j := 3) (by omega)
  have g3 := (hF 3 f3 rfl).trans e3
  obtain ⟨o4, k4⟩ := hone_of hone 4 f4 rfl
  obtain ⟨y4, e4⟩ := at_some5 (l := xs) (j := 4) (by omega)
  have g4 := (hF 4 f4 rfl).trans e4
  exact ⟨v0, v1, v2, v3, v4, n, rfl, ⟨y0, by simpa [Value.cells, o0, k0] using g0⟩, ⟨y1, by simpa [Value.cells, o1, k1] using g1⟩, ⟨y2, by simpa [Value.cells, o2, k2] using g2⟩, ⟨y3, by simpa [Value.cells, o3, k3] using g3⟩, ⟨y4, by simpa [Value.cells, o4, k4] using g4⟩⟩

set_option maxRecDepth 100000 in
theorem mem_one {H : Type} {enc : TypeId × Value → H} {W : World} {n : Nat} {a : Addr} {cs' : List Value} {y : DataW H × List MemPlace} (h1 : W.cells? 0 a 3 = some cs') (h2 : DataW.trod enc Tryd.prog W 0 (fun _ => true) true n 70 cs' = some y) :
    ∃ q : ByteArray × ByteArray × Int, W.cell? a = some (.string q.1) ∧ W.cell? (a.add 1) = some (.string q.2.1) ∧ W.cell? (a.add 2) = some (.int .i64 q.2.2) ∧ q.1.size ≤ maxLen ∧ q.2.1.size ≤ maxLen := by
  obtain ⟨_, hlen, hcell⟩ := World.cells?_some h1
  obtain ⟨xs, k, _, _, _, hxl, hf⟩ := DataW.trod_struct Tryd.underlying70 h2
  match xs, hxl, cs', hlen with
  | [y0, y1, y2], _, [v0, v1, v2], _ =>
    have g0 := hf 0 _ rfl
    have g1 := hf 1 _ rfl
    have g2 := hf 2 _ rfl
    have c9 : Tryd.prog.cellsOf 9 = 1 := by kernel_rfl
    have c3 : Tryd.prog.cellsOf 3 = 1 := by kernel_rfl
    simp [c9, c3] at g0 g1 g2
    obtain ⟨s0, q0, _, w0⟩ := DataW.trod_string Tryd.underlying9 g0
    obtain ⟨s1, q1, _, w1⟩ := DataW.trod_string Tryd.underlying9 g1
    obtain ⟨s2, q2, _⟩ := DataW.trod_int Tryd.underlying3 g2
    obtain rfl : v0 = .string s0 := by simpa using q0
    obtain rfl : v1 = .string s1 := by simpa using q1
    obtain rfl : v2 = .int .i64 s2 := by simpa using q2
    have e0 := hcell 0 (by omega)
    have e1 := hcell 1 (by omega)
    have e2 := hcell 2 (by omega)
    exact ⟨(s0, s1, s2), by simpa [Addr.add] using e0, by simpa using e1, by simpa using e2, w0, w1⟩
set_option maxRecDepth 100000 in
theorem rank_one {H : Type} {enc : TypeId × Value → H} {W : World} {n : Nat} {a : Addr} {cs' : List Value} {y : DataW H × List MemPlace} (h1 : W.cells? 0 a 2 = some cs') (h2 : DataW.trod enc Tryd.prog W 0 (fun _ => true) true n 72 cs' = some y) :
    ∃ q : ByteArray × Int, W.cell? a = some (.string q.1) ∧ W.cell? (a.add 1) = some (.int .i64 q.2) ∧ q.1.size ≤ maxLen := by
  obtain ⟨_, hlen, hcell⟩ := World.cells?_some h1
  obtain ⟨xs, k, _, _, _, hxl, hf⟩ := DataW.trod_struct Tryd.underlying72 h2
  match xs, hxl, cs', hlen with
  | [y0, y1], _, [v0, v1], _ =>
    have g0 := hf 0 _ rfl
    have g1 := hf 1 _ rfl
    have c9 : Tryd.prog.cellsOf 9 = 1 := by kernel_rfl
    have c3 : Tryd.prog.cellsOf 3 = 1 := by kernel_rfl
    simp [c9, c3] at g0 g1
    obtain ⟨s0, q0, _, w0⟩ := DataW.trod_string Tryd.underlying9 g0
    obtain ⟨s1, q1, _⟩ := DataW.trod_int Tryd.underlying3 g1
    obtain rfl : v0 = .string s0 := by simpa using q0
    obtain rfl : v1 = .int .i64 s1 := by simpa using q1
    have e0 := hcell 0 (by omega)
    have e1 := hcell 1 (by omega)
    exact ⟨(s0, s1), by simpa [Addr.add] using e0, by simpa using e1, w0⟩

theorem open_mems {H : Type} {enc : TypeId × Value → H} {W : World} {fuel : Nat} {v : Value} {y : DataW H × List MemPlace} (h : DataW.trod enc Tryd.prog W 0 (fun _ => true) true fuel 22 [v] = some y) :
    ∃ (n : Nat) (U N : Nat → ByteArray) (R : Nat → Int), MemAt W v n U N R ∧ ∀ j, j < n → (U j).size ≤ maxLen ∧ (N j).size ≤ maxLen := by
  have ce : Tryd.prog.cellsOf 70 = 3 := by kernel_rfl
  rcases open_slice Tryd.underlying22 h with ⟨hcs, _⟩ | ⟨a, len, cap, m, n, D, Pl, hcs, _, hl, hm, hmm, _, hx⟩
  · obtain rfl : v = .slice none 0 0 := by simpa using hcs
    exact ⟨0, fun _ => ⟨#[]⟩, fun _ => ⟨#[]⟩, fun _ => 0, ⟨none, 0, rfl, Nat.le_refl _, Nat.zero_le _, fun j hj => absurd hj (by omega)⟩, fun j hj => absurd hj (by omega)⟩
  · obtain rfl : v = .slice (some a) len cap := by simpa using hcs
    simp only [if_true] at hmm
    subst hmm
    have each : ∀ i, i < len → ∃ q : ByteArray × ByteArray × Int, W.cell? (a.add (i * 3)) = some (.string q.1) ∧ W.cell? ((a.add (i * 3)).add 1) = some (.string q.2.1) ∧ W.cell? ((a.add (i * 3)).add 2) = some (.int .i64 q.2.2) ∧ q.1.size ≤ maxLen ∧ q.2.1.size ≤ maxLen := by
      intro i hi
      obtain ⟨cs', h1, h2⟩ := hx i (by omega)
      rw [ce] at h1 
      obtain ⟨q, hq⟩ := mem_one h1 h2
      exact ⟨q, hq⟩
    obtain ⟨q, hq⟩ := choose_lt each
    refine ⟨len, fun i => (q i).1, fun i => (q i).2.1, fun i => (q i).2.2, ⟨some a, m, rfl, hl, hm, fun j hj => ?_⟩, fun j hj => ⟨(hq j hj).2.2.2.1, (hq j hj).2.2.2.2⟩⟩
    obtain ⟨ab, ao, spot⟩ := a
    have k0 := (hq j hj).1
    have hspot : spot = none := by
      have c0 := (hq 0 (by omega)).1
      simpa [Addr.add] using World.cell?_spot c0
    subst hspot
    rw [Addr.add_lit] at k0
    obtain ⟨ob, hob, _⟩ := cells_of_cell k0
    refine ⟨ab, ao, rfl, (Array.getElem?_eq_some_iff.1 hob).1, k0, by have := (hq j hj).2.1; rw [Addr.add_lit, Addr.add_lit] at this; exact this, by have := (hq j hj).2.2.1; rw [Addr.add_lit, Addr.add_lit] at this; exact this⟩

theorem open_ranks {H : Type} {enc : TypeId × Value → H} {W : World} {fuel : Nat} {v : Value} {y : DataW H × List MemPlace} (h : DataW.trod enc Tryd.prog W 0 (fun _ => true) true fuel 23 [v] = some y) :
    ∃ (n : Nat) (U : Nat → ByteArray) (R : Nat → Int), RankAt W v n U R ∧ ∀ j, j < n → (U j).size ≤ maxLen := by
  have ce : Tryd.prog.cellsOf 72 = 2 := by kernel_rfl
  rcases open_slice Tryd.underlying23 h with ⟨hcs, _⟩ | ⟨a, len, cap, m, n, D, Pl, hcs, _, hl, hm, hmm, _, hx⟩
  · obtain rfl : v = .slice none 0 0 := by simpa using hcs
    exact ⟨0, fun _ => ⟨#[]⟩, fun _ => 0, ⟨none, 0, rfl, Nat.le_refl _, Nat.zero_le _, fun j hj => absurd hj (by omega)⟩, fun j hj => absurd hj (by omega)⟩
  · obtain rfl : v = .slice (some a) len cap := by simpa using hcs
    simp only [if_true] at hmm
    subst hmm
    have each : ∀ i, i < len → ∃ q : ByteArray × Int, W.cell? (a.add (i * 2)) = some (.string q.1) ∧ W.cell? ((a.add (i * 2)).add 1) = some (.int .i64 q.2) ∧ q.1.size ≤ maxLen := by
      intro i hi
      obtain ⟨cs', h1, h2⟩ := hx i (by omega)
      rw [ce] at h1 
      obtain ⟨q, hq⟩ := rank_one h1 h2
      exact ⟨q, hq⟩
    obtain ⟨q, hq⟩ := choose_lt each
    refine ⟨len, fun i => (q i).1, fun i => (q i).2, ⟨some a, m, rfl, hl, hm, fun j hj => ?_⟩, fun j hj => (hq j hj).2.2⟩
    obtain ⟨ab, ao, spot⟩ := a
    have k0 := (hq j hj).1
    have hspot : spot = none := by
      have c0 := (hq 0 (by omega)).1
      simpa [Addr.add] using World.cell?_spot c0
    subst hspot
    rw [Addr.add_lit] at k0
    obtain ⟨ob, hob, _⟩ := cells_of_cell k0
    refine ⟨ab, ao, rfl, (Array.getElem?_eq_some_iff.1 hob).1, k0, by have := (hq j hj).2.1; rw [Addr.add_lit, Addr.add_lit] at this; exact this⟩

set_option maxRecDepth 100000 in
theorem open_room {H : Type} {enc : TypeId × Value → H} {W : World} {r : Reach} {b0 : Nat} {v : Value} {d : DataW H} {p : List MemPlace}
    (hv : Value.okWide Tryd.prog W r b0 25 v) (h : DataW.Trod enc Tryd.prog W 0 (fun _ => true) true 25 v d p) :
    ∃ (nm : ByteArray) (nx : Int) (vm vk : Value) (sb : ByteArray) (n : Nat) (U N : Nat → ByteArray) (R : Nat → Int) (z : Nat) (KU : Nat → ByteArray) (KR : Nat → Int), v = roomV nm nx vm vk sb ∧ nm.size ≤ maxLen ∧ sb.size ≤ maxLen ∧ MemAt W vm n U N R ∧ (∀ j, j < n → (U j).size ≤ maxLen ∧ (N j).size ≤ maxLen) ∧ RankAt W vk z KU KR ∧ ∀ j, j < z → (KU j).size ≤ maxLen := by
  obtain ⟨v0, v1, v2, v3, v4, m, rfl, ⟨y0, t0⟩, ⟨y1, t1⟩, ⟨y2, t2⟩, ⟨y3, t3⟩, ⟨y4, t4⟩⟩ := open_agg5 Tryd.underlying25 (by kernel_rfl) (by kernel_rfl) hv h
  obtain ⟨s0, q0, _, w0⟩ := DataW.trod_string Tryd.underlying9 t0
  obtain rfl : v0 = .string s0 := by simpa using q0
  obtain ⟨s1, q1, _⟩ := DataW.trod_int Tryd.underlying3 t1
  obtain rfl : v1 = .int .i64 s1 := by simpa using q1
  obtain ⟨s4, q4, _, w4⟩ := DataW.trod_string Tryd.underlying9 t4
  obtain rfl : v4 = .string s4 := by simpa using q4
  obtain ⟨n, U, N, R, hm, hms⟩ := open_mems t2
  obtain ⟨z, KU, KR, hk, hks⟩ := open_ranks t3
  exact ⟨s0, s1, v2, v3, s4, n, U, N, R, z, KU, KR, rfl, w0, w4, hm, hms, hk, hks⟩
end Go.Proofs.YtglbjibilllopaaDoor.Hub
