/-
  Lists of members and of ranks as they lie in memory; the first place where something holds; no program in it but the types' numbers.
-/
import Derived.Test.YtglbjibilllopaaDoorWords
import Derived.Test.YtglbjibilllopaaDoorJidOk
namespace Go.Proofs.YtglbjibilllopaaDoor.Hub
open Go.RowKit
set_option linter.unusedVariables false

/-- The first place from k on, among so many, at which p holds; -1, if there is none. -/
def findFrom (p : Nat → Bool) : Nat → Nat → Int
  | 0, _ => -1
  | f + 1, k => if p k then (k : Int) else findFrom p f (k + 1)
def firstI (n : Nat) (p : Nat → Bool) : Int := findFrom p n 0
theorem find_hit (p : Nat → Bool) (n k : Nat) (hk : k < n) (h : p k = true) : findFrom p (n - k) k = (k : Int) := by
  obtain ⟨f, hf⟩ : ∃ f, n - k = f + 1 := ⟨n - k - 1, by omega⟩
  rw [hf, findFrom, if_pos h]
theorem find_miss (p : Nat → Bool) (n k : Nat) (hk : k < n) (h : p k = false) : findFrom p (n - k) k = findFrom p (n - (k + 1)) (k + 1) := by
  obtain ⟨f, hf⟩ : ∃ f, n - k = f + 1 := ⟨n - k - 1, by omega⟩
  rw [hf, findFrom, if_neg (by simp [h])]
  congr 1
  omega
theorem find_end (p : Nat → Bool) (n : Nat) : findFrom p (n - n) n = -1 := by
  rw [Nat.sub_self]; rfl
/-- The rank of a user among ranks from k on; 1, if there is none. -/
def rankFrom (U : Nat → ByteArray) (R : Nat → Int) (u : ByteArray) : Nat → Nat → Int
  | 0, _ => 1
  | f + 1, k => if (U k).toList == u.toList then R k else rankFrom U R u f (k + 1)
def rankI (n : Nat) (U : Nat → ByteArray) (R : Nat → Int) (u : ByteArray) : Int := rankFrom U R u n 0
theorem rank_hit (U : Nat → ByteArray) (R : Nat → Int) (u : ByteArray) (n k : Nat) (hk : k < n) (h : ((U k).toList == u.toList) = true) : rankFrom U R u (n - k) k = R k := by
  obtain ⟨f, hf⟩ : ∃ f, n - k = f + 1 := ⟨n - k - 1, by omega⟩
  rw [hf, rankFrom, if_pos h]
theorem rank_miss (U : Nat → ByteArray) (R : Nat → Int) (u : ByteArray) (n k : Nat) (hk : k < n) (h : ((U k).toList == u.toList) = false) : rankFrom U R u (n - k) k = rankFrom U R u (n - (k + 1)) (k + 1) := by
  obtain ⟨f, hf⟩ : ∃ f, n - k = f + 1 := ⟨n - k - 1, by omega⟩
  rw [hf, rankFrom, if_neg (by rw [h]; decide)]
  congr 1
  omega
theorem rank_end (U : Nat → ByteArray) (R : Nat → Int) (u : ByteArray) (n : Nat) : rankFrom U R u (n - n) n = 1 := by
  rw [Nat.sub_self]; rfl
/-- How many owners there are among the first k. -/
def ownersTo (R : Nat → Int) : Nat → Nat
  | 0 => 0
  | k + 1 => ownersTo R k + if R k = 4 then 1 else 0
theorem owners_le (R : Nat → Int) : ∀ k, ownersTo R k ≤ k
  | 0 => Nat.le_refl _
  | k + 1 => by have := owners_le R k; rw [ownersTo]; split <;> omega
/-- So many are as they must be. -/
def allTo (p : Nat → Bool) : Nat → Bool
  | 0 => true
  | k + 1 => allTo p k && p k
theorem allTo_false (p : Nat → Bool) : ∀ (n k : Nat), k < n → p k = false → allTo p n = false
  | 0, _, h, _ => absurd h (by omega)
  | n + 1, k, h, hp => by
    rw [allTo]
    by_cases hk : k = n
    · subst hk; rw [hp, Bool.and_false]
    · rw [allTo_false p n k (by omega) hp, Bool.false_and]
theorem allTo_at (p : Nat → Bool) : ∀ (n : Nat), allTo p n = true → ∀ k, k < n → p k = true
  | 0, _, k, h => absurd h (by omega)
  | n + 1, hA, k, h => by
    rw [allTo, Bool.and_eq_true] at hA
    by_cases hk : k = n
    · subst hk; exact hA.2
    · exact allTo_at p n hA.1 k (by omega)
theorem allTo_of (p : Nat → Bool) : ∀ (n : Nat), (∀ k, k < n → p k = true) → allTo p n = true
  | 0, _ => rfl
  | n + 1, h => by rw [allTo, allTo_of p n (fun k hk => h k (by omega)), h n (by omega)]; rfl
/-- What each member must be, in the model's words. -/
def memOne (n : Nat) (U N : Nat → ByteArray) (R : Nat → Int) (z : Nat) (KU : Nat → ByteArray) (KR : Nat → Int) (j : Nat) : Bool :=
  userT (U j) && (nickT (N j) && (inI (R j) 1 3 && (decide (firstI n (fun x => (U x).toList == (U j).toList) = (j : Int)) && (decide (firstI n (fun x => (N x).toList == (N j).toList) = (j : Int)) && decide (rankI z KU KR (U j) ≠ 0)))))
def memsT (n : Nat) (U N : Nat → ByteArray) (R : Nat → Int) (z : Nat) (KU : Nat → ByteArray) (KR : Nat → Int) : Bool := allTo (memOne n U N R z KU KR) n && decide (n ≤ 5)
/-- What each rank must be. -/
def rankOne (KU : Nat → ByteArray) (KR : Nat → Int) (j : Nat) : Bool :=
  userT (KU j) && (inI (KR j) 0 4 && (decide (KR j ≠ 1) && (decide (j = 0) || Op.bytesLess (KU (j - 1)).toList (KU j).toList)))
def ranksT (z : Nat) (KU : Nat → ByteArray) (KR : Nat → Int) : Bool := allTo (rankOne KU KR) z && decide (z ≤ 6)
/-- A slice of so many members, each in three cells, lies there. -/
def MemAt (W : World) (v : Value) (n : Nat) (U N : Nat → ByteArray) (R : Nat → Int) : Prop :=
  ∃ (o : Option Addr) (cap : Nat), v = .slice o n cap ∧ n ≤ cap ∧ cap ≤ maxLen ∧ ∀ j, j < n → ∃ b f : Nat, o = some ⟨b, f, none⟩ ∧ b < W.heap.size ∧ W.cell? ⟨b, f + j * 3, none⟩ = some (.string (U j)) ∧ W.cell? ⟨b, f + j * 3 + 1, none⟩ = some (.string (N j)) ∧ W.cell? ⟨b, f + j * 3 + 2, none⟩ = some (.int .i64 (R j))
/-- A slice of so many ranks, each in two cells, lies there. -/
def RankAt (W : World) (v : Value) (n : Nat) (U : Nat → ByteArray) (R : Nat → Int) : Prop :=
  ∃ (o : Option Addr) (cap : Nat), v = .slice o n cap ∧ n ≤ cap ∧ cap ≤ maxLen ∧ ∀ j, j < n → ∃ b f : Nat, o = some ⟨b, f, none⟩ ∧ b < W.heap.size ∧ W.cell? ⟨b, f + j * 2, none⟩ = some (.string (U j)) ∧ W.cell? ⟨b, f + j * 2 + 1, none⟩ = some (.int .i64 (R j))
theorem MemAt.below {W W' : World} {v : Value} {n : Nat} {U N : Nat → ByteArray} {R : Nat → Int} (h : MemAt W v n U N R) (b : Below W.heap.size W W') : MemAt W' v n U N R := by
  obtain ⟨o, cap, hv, h1, h2, hc⟩ := h
  refine ⟨o, cap, hv, h1, h2, fun j hj => ?_⟩
  obtain ⟨B, f, ho, hB, c0, c1, c2⟩ := hc j hj
  exact ⟨B, f, ho, Nat.lt_of_lt_of_le hB b.size, (b.cell (p := ⟨B, f + j * 3, none⟩) hB).trans c0, (b.cell (p := ⟨B, f + j * 3 + 1, none⟩) hB).trans c1, (b.cell (p := ⟨B, f + j * 3 + 2, none⟩) hB).trans c2⟩
theorem RankAt.below {W W' : World} {v : Value} {n : Nat} {U : Nat → ByteArray} {R : Nat → Int} (h : RankAt W v n U R) (b : Below W.heap.size W W') : RankAt W' v n U R := by
  obtain ⟨o, cap, hv, h1, h2, hc⟩ := h
  refine ⟨o, cap, hv, h1, h2, fun j hj => ?_⟩
  obtain ⟨B, f, ho, hB, c0, c1⟩ := hc j hj
  exact ⟨B, f, ho, Nat.lt_of_lt_of_le hB b.size, (b.cell (p := ⟨B, f + j * 2, none⟩) hB).trans c0, (b.cell (p := ⟨B, f + j * 2 + 1, none⟩) hB).trans c1⟩
/-- A room, as a value. -/
abbrev roomV (nm : ByteArray) (nx : Int) (vm vk : Value) (sb : ByteArray) : Value := .agg #[.string nm, .int .i64 nx, vm, vk, .string sb]
end Go.Proofs.YtglbjibilllopaaDoor.Hub
