/-
  A list of clients, to none of whom anything is under way and to none of whom anything came, as it lies in memory; the law's own eqClientS, markClientS, heldClientS over such.
-/
import Derived.Test.YtkfdggcccegmlaaAccBase
import Derived.Test.YtkfdggcccegmlaaMarks
namespace Go.Proofs.Ytkfdggcccegmlaa.Hub
open Go.RowKit
set_option linter.unusedVariables false

/-- Cells of such clients. -/
def cliVs (L C : Nat → Int) (K : Nat → ByteArray) (n : Nat) : List Value := (List.range n).flatMap fun j => [.int .i64 (L j), .slice none 0 0, .int .i64 (C j), .slice none 0 0, .string (K j)]
theorem cliVs_succ (L C : Nat → Int) (K : Nat → ByteArray) (n : Nat) : cliVs L C K (n + 1) = cliVs L C K n ++ [.int .i64 (L n), .slice none 0 0, .int .i64 (C n), .slice none 0 0, .string (K n)] := by simp [cliVs, List.range_succ]
theorem cliVs_len (L C : Nat → Int) (K : Nat → ByteArray) : ∀ n, (cliVs L C K n).length = n * 5
  | 0 => rfl
  | n + 1 => by rw [cliVs_succ, List.length_append, cliVs_len L C K n]; simp; omega
/-- What lies at the five places of a client. -/
def cliIn (f : Nat → Option Value) (o : Nat) (l c : Int) (k : ByteArray) : Prop := f o = some (.int .i64 l) ∧ f (o + 1) = some (.slice none 0 0) ∧ f (o + 2) = some (.int .i64 c) ∧ f (o + 3) = some (.slice none 0 0) ∧ f (o + 4) = some (.string k)
theorem cliVs_at (L C : Nat → Int) (K : Nat → ByteArray) : ∀ (n j : Nat), j < n → cliIn (fun i => (cliVs L C K n)[i]?) (j * 5) (L j) (C j) (K j)
  | 0, j, h => absurd h (by omega)
  | n + 1, j, h => by
    unfold cliIn
    rw [cliVs_succ]
    by_cases hj : j < n
    · have := cliVs_at L C K n j hj
      unfold cliIn at this
      dsimp only at this ⊢
      have q : ∀ i, i < n * 5 → (cliVs L C K n ++ [.int .i64 (L n), .slice none 0 0, .int .i64 (C n), .slice none 0 0, .string (K n)])[i]? = (cliVs L C K n)[i]? := fun i hi => List.getElem?_append_left (by rw [cliVs_len]; exact hi)
      rw [q _ (by omega), q _ (by omega), q _ (by omega), q _ (by omega), q _ (by omega)]
      exact this
    · obtain rfl : j = n := by omega
      have q : ∀ i, (cliVs L C K j ++ [.int .i64 (L j), .slice none 0 0, .int .i64 (C j), .slice none 0 0, .string (K j)])[j * 5 + i]? = [Value.int .i64 (L j), .slice none 0 0, .int .i64 (C j), .slice none 0 0, .string (K j)][i]? := fun i => by
        rw [List.getElem?_append_right (by rw [cliVs_len]; omega), cliVs_len]
        congr 1
        omega
      dsimp only
      exact ⟨q 0, q 1, q 2, q 3, q 4⟩
/-- A slice of so many clients, each in five cells, lies there. -/
def CliAt (W : World) (v : Value) (n : Nat) (L C : Nat → Int) (K : Nat → ByteArray) : Prop :=
  ∃ (o : Option Addr) (cap : Nat), v = .slice o n cap ∧ n ≤ cap ∧ cap ≤ maxLen ∧ ∀ j, j < n → ∃ b : Nat, o = some ⟨b, 0, none⟩ ∧ b < W.heap.size ∧ cliIn (fun i => W.cell? ⟨b, i, none⟩) (j * 5) (L j) (C j) (K j)
theorem CliAt.below {W W' : World} {v : Value} {n : Nat} {L C : Nat → Int} {K : Nat → ByteArray} (h : CliAt W v n L C K) (b : Below W.heap.size W W') : CliAt W' v n L C K := by
  obtain ⟨o, cap, hv, h1, h2, hc⟩ := h
  refine ⟨o, cap, hv, h1, h2, fun j hj => ?_⟩
  obtain ⟨B, ho, hB, c0, c1, c2, c3, c4⟩ := hc j hj
  have q : ∀ i, W'.cell? ⟨B, i, none⟩ = W.cell? ⟨B, i, none⟩ := fun i => b.cell (p := ⟨B, i, none⟩) hB
  exact ⟨B, ho, Nat.lt_of_lt_of_le hB b.size, (q _).trans c0, (q _).trans c1, (q _).trans c2, (q _).trans c3, (q _).trans c4⟩
/-- A new list of n clients, in a block from base on. -/
def OwnC (W : World) (base : Nat) (v : Value) (n : Nat) (L C : Nat → Int) (K : Nat → ByteArray) : Prop := W.ownsRow base 49 5 v n (cliVs L C K n)
theorem OwnC.nil (W : World) (base : Nat) (L C : Nat → Int) (K : Nat → ByteArray) : OwnC W base (.slice none 0 0) 0 L C K := ⟨rfl, .inl ⟨rfl, rfl⟩⟩
theorem OwnC.at {W : World} {base : Nat} {v : Value} {n : Nat} {L C : Nat → Int} {K : Nat → ByteArray} (h : OwnC W base v n L C K) : CliAt W v n L C K := by
  have hh := h
  rcases h.2 with ⟨rfl, rfl⟩ | ⟨g, cap, cur, rfl, hb, hg, hc, hM, hs, htk⟩
  · exact ⟨none, 0, rfl, Nat.le_refl _, Nat.zero_le _, fun j hj => absurd hj (by omega)⟩
  · refine ⟨some ⟨g, 0, none⟩, cap, rfl, hc, hM, fun j hj => ⟨g, rfl, (Array.getElem?_eq_some_iff.1 hg).1, ?_⟩⟩
    have q : ∀ i, i < n * 5 → W.cell? ⟨g, i, none⟩ = (cliVs L C K n)[i]? := fun i hi => World.ownsRow.cellAt (w := W) (base := base) (e := 49) (size := 5) (cap := cap) (n := n) hh i hi
    obtain ⟨c0, c1, c2, c3, c4⟩ := cliVs_at L C K n j hj
    exact ⟨(q _ (by omega)).trans c0, (q _ (by omega)).trans c1, (q _ (by omega)).trans c2, (q _ (by omega)).trans c3, (q _ (by omega)).trans c4⟩
theorem OwnC.shape {W : World} {base : Nat} {v : Value} {n : Nat} {L C : Nat → Int} {K : Nat → ByteArray} (h : OwnC W base v n L C K) : ∃ o c, v = .slice o n c := by
  rcases h.2 with ⟨e, h0⟩ | ⟨g, c, cur, e, _⟩
  · subst h0; exact ⟨_, _, e⟩
  · exact ⟨_, _, e⟩
theorem OwnC.set {W : World} {base : Nat} {v : Value} {n : Nat} {L C : Nat → Int} {K : Nat → ByteArray} (h : OwnC W base v n L C K) (p : Addr) (x : Value) (hp : p.block < base) : OwnC (W.setCell p x) base v n L C K := ownsRow_setCell_below h hp x
theorem OwnC.mono {W : World} {base base' : Nat} {v : Value} {n : Nat} {L C : Nat → Int} {K : Nat → ByteArray} (h : OwnC W base v n L C K) (hb : base' ≤ base) : OwnC W base' v n L C K := by
  refine ⟨h.1, ?_⟩
  rcases h.2 with h2 | ⟨g, cap, cur, hv, hb2, rest⟩
  · exact .inl h2
  · exact .inr ⟨g, cap, cur, hv, Nat.le_trans hb hb2, rest⟩
theorem OwnC.below {W W' : World} {base : Nat} {v : Value} {n : Nat} {L C : Nat → Int} {K : Nat → ByteArray} (h : OwnC W base v n L C K) (hb : Below W.heap.size W W') : OwnC W' base v n L C K := by
  refine ⟨h.1, ?_⟩
  rcases h.2 with h2 | ⟨g, cap, cur, hv, hb2, hg, rest⟩
  · exact .inl h2
  · exact .inr ⟨g, cap, cur, hv, hb2, (hb.block g (Array.getElem?_eq_some_iff.1 hg).1).trans hg, rest⟩
theorem cli_row {W : World} {base g n cap : Nat} {X : Array Value} {L C : Nat → Int} {K : Nat → ByteArray} (hb : base ≤ g) (hg : W.heap[g]? = some (.cells X 49 (0, 0))) (hc : n ≤ cap) (hM : cap ≤ maxLen) (hX : X.size = cap * 5) (hA : ∀ j, j < n → cliIn (fun i => X[i]?) (j * 5) (L j) (C j) (K j)) : OwnC W base (.slice (some ⟨g, 0, none⟩) n cap) n L C K := by
  refine ⟨cliVs_len L C K n, .inr ⟨g, cap, X, rfl, hb, hg, hc, hM, hX, ?_⟩⟩
  apply List.ext_getElem?
  intro i
  rw [List.getElem?_take]
  by_cases hi : i < n * 5
  · rw [if_pos hi, Array.getElem?_toList]
    obtain ⟨a0, a1, a2, a3, a4⟩ := hA (i / 5) (by omega)
    obtain ⟨b0, b1, b2, b3, b4⟩ := cliVs_at L C K n (i / 5) (by omega)
    have h5 : i % 5 = 0 ∨ i % 5 = 1 ∨ i % 5 = 2 ∨ i % 5 = 3 ∨ i % 5 = 4 := by omega
    rcases h5 with e | e | e | e | e
    · have e' : i = (i / 5) * 5 := by omega
      rw [e']; exact a0.trans b0.symm
    · have e' : i = (i / 5) * 5 + 1 := by omega
      rw [e']; exact a1.trans b1.symm
    · have e' : i = (i / 5) * 5 + 2 := by omega
      rw [e']; exact a2.trans b2.symm
    · have e' : i = (i / 5) * 5 + 3 := by omega
      rw [e']; exact a3.trans b3.symm
    · have e' : i = (i / 5) * 5 + 4 := by omega
      rw [e']; exact a4.trans b4.symm
  · rw [if_neg hi, List.getElem?_eq_none (by rw [cliVs_len]; omega)]

set_option maxRecDepth 100000 in
set_option maxHeartbeats 1000000 in
theorem eqOutS_none (w : World) : Calls Try.prog 56 #[.slice none 0 0, .slice none 0 0] w fun e w' => e = .returned (.bool true) ∧ w' = w := by
  go_enter Try.func56, Try.ntmps56
  go_wp2_with fail
  go_loop [5] (fun i => i = .int .i64 0) (fun _ => 0)
  case atStart => rfl
  case round =>
    obtain rfl := hrel
    go_wp2_with fail
    go_ret
    exact ⟨rfl, rfl⟩

set_option maxRecDepth 100000 in
set_option maxHeartbeats 1000000 in
theorem eqStringS_none (w : World) : Calls Try.prog 57 #[.slice none 0 0, .slice none 0 0] w fun e w' => e = .returned (.bool true) ∧ w' = w := by
  go_enter Try.func57, Try.ntmps57
  go_wp2_with fail
  go_loop [5] (fun i => i = .int .i64 0) (fun _ => 0)
  case atStart => rfl
  case round =>
    obtain rfl := hrel
    go_wp2_with fail
    go_ret
    exact ⟨rfl, rfl⟩

set_option maxRecDepth 100000 in
set_option maxHeartbeats 1000000 in
theorem markOutS_none (k : Nat) (w : World) : Calls Try.prog 40 #[.slice none 0 0, .int .i64 k] w fun e w' => e = .returned (.int .i64 k) ∧ w' = w := by
  go_enter Try.func40, Try.ntmps40
  go_wp2_with fail
  go_loop [1, 5] (fun l i => l = .int .i64 k ∧ i = .int .i64 0) (fun _ _ => 0)
  case atStart => exact ⟨rfl, rfl⟩
  case round =>
    obtain ⟨rfl, rfl⟩ := hrel
    go_wp2_with fail
    go_ret
    exact ⟨rfl, rfl⟩

set_option maxRecDepth 100000 in
set_option maxHeartbeats 1000000 in
theorem markStringS_none (k : Nat) (w : World) : Calls Try.prog 41 #[.slice none 0 0, .int .i64 k] w fun e w' => e = .returned (.int .i64 k) ∧ w' = w := by
  go_enter Try.func41, Try.ntmps41
  go_wp2_with fail
  go_loop [1, 5] (fun l i => l = .int .i64 k ∧ i = .int .i64 0) (fun _ _ => 0)
  case atStart => exact ⟨rfl, rfl⟩
  case round =>
    obtain ⟨rfl, rfl⟩ := hrel
    go_wp2_with fail
    go_ret
    exact ⟨rfl, rfl⟩

set_option maxRecDepth 100000 in
set_option maxHeartbeats 1000000 in
theorem heldOutS_none (k : Nat) (w : World) : Calls Try.prog 45 #[.slice none 0 0, .int .i64 k] w fun e w' => e = .returned (.int .i64 k) ∧ w' = w := by
  go_enter Try.func45, Try.ntmps45
  go_wp2_with fail
  go_loop [1, 5] (fun l i => l = .int .i64 k ∧ i = .int .i64 0) (fun _ _ => 0)
  case atStart => exact ⟨rfl, rfl⟩
  case round =>
    obtain ⟨rfl, rfl⟩ := hrel
    go_wp2_with fail
    go_ret
    exact ⟨rfl, rfl⟩

set_option maxRecDepth 100000 in
set_option maxHeartbeats 1000000 in
theorem heldStringS_none (k : Nat) (w : World) : Calls Try.prog 46 #[.slice none 0 0, .int .i64 k] w fun e w' => e = .returned (.int .i64 k) ∧ w' = w := by
  go_enter Try.func46, Try.ntmps46
  go_wp2_with fail
  go_loop [1, 5] (fun l i => l = .int .i64 k ∧ i = .int .i64 0) (fun _ _ => 0)
  case atStart => exact ⟨rfl, rfl⟩
  case round =>
    obtain ⟨rfl, rfl⟩ := hrel
    go_wp2_with fail
    go_ret
    exact ⟨rfl, rfl⟩
end Go.Proofs.Ytkfdggcccegmlaa.Hub
