/-
  What a room is written as; how small its parts are.
-/
import Derived.Test.YtglbjibilllopaaDoorRoomOkT
import Derived.Test.YtglbjibilllopaaDoorEntryPutT
import Derived.Test.YtglbjibilllopaaDoorFieldPlain
namespace Go.Proofs.YtglbjibilllopaaDoor.Hub
open Go.RowKit
set_option linter.unusedVariables false
set_option linter.unusedSimpArgs false

def headS (nm : ByteArray) (nx : Nat) (sb : ByteArray) (n : Nat) : ByteArray :=
  nm ++ ByteArray.mk #[124] ++ decB 3 nx ++ ByteArray.mk #[124] ++ fieldT sb ++ ByteArray.mk #[124] ++ decB 0 n
/-- Behind O the first k members. -/
def memS (O : ByteArray) (U N : Nat → ByteArray) (R : Nat → Int) : Nat → ByteArray
  | 0 => O
  | k + 1 => memS O U N R k ++ ByteArray.mk #[124] ++ U k ++ ByteArray.mk #[124] ++ fieldT (N k) ++ ByteArray.mk #[124] ++ decB 0 (R k).toNat
/-- Behind O the first k ranks. -/
def rnkS (O : ByteArray) (KU : Nat → ByteArray) (KR : Nat → Int) : Nat → ByteArray
  | 0 => O
  | k + 1 => rnkS O KU KR k ++ ByteArray.mk #[124] ++ KU k ++ ByteArray.mk #[124] ++ decB 0 (KR k).toNat
def roomS (nm : ByteArray) (nx : Nat) (sb : ByteArray) (n : Nat) (U N : Nat → ByteArray) (R : Nat → Int) (z : Nat) (KU : Nat → ByteArray) (KR : Nat → Int) : ByteArray :=
  rnkS (memS (headS nm nx sb n) U N R n) KU KR z
/-- A room, written, or no text. -/
def rputT (nm : ByteArray) (nx : Int) (sb : ByteArray) (n : Nat) (U N : Nat → ByteArray) (R : Nat → Int) (z : Nat) (KU : Nat → ByteArray) (KR : Nat → Int) : ByteArray :=
  if roomT nm nx sb n U N R z KU KR = true then roomS nm nx.toNat sb n U N R z KU KR else ⟨#[]⟩

theorem fieldT_size (s : ByteArray) : (fieldT s).size ≤ 2 * s.size := fieldPre_size s s.size
theorem bar_size : (ByteArray.mk #[124]).size = 1 := rfl
theorem headS_size {nm sb : ByteArray} {nx n : Nat} (h1 : nm.size ≤ 100) (h2 : sb.size ≤ 100) : (headS nm nx sb n).size ≤ 400 := by
  have a := decB_size 3 nx
  have b := decB_size 0 n
  have c := fieldT_size sb
  unfold headS
  simp only [ByteArray.size_append, bar_size]
  omega
theorem memS_size {O : ByteArray} {U N : Nat → ByteArray} {R : Nat → Int} {n : Nat} (h : ∀ j, j < n → (U j).size ≤ 100 ∧ (N j).size ≤ 100) : ∀ k, k ≤ n → (memS O U N R k).size ≤ O.size + 400 * k
  | 0, _ => by unfold memS; omega
  | k + 1, hk => by
    have a := memS_size (O := O) (R := R) h k (by omega)
    have b := h k (by omega)
    have c := fieldT_size (N k)
    have d := decB_size 0 (R k).toNat
    rw [memS]
    simp only [ByteArray.size_append, bar_size]
    omega
theorem rnkS_size {O : ByteArray} {KU : Nat → ByteArray} {KR : Nat → Int} {n : Nat} (h : ∀ j, j < n → (KU j).size ≤ 100) : ∀ k, k ≤ n → (rnkS O KU KR k).size ≤ O.size + 200 * k
  | 0, _ => by unfold rnkS; omega
  | k + 1, hk => by
    have a := rnkS_size (O := O) (KR := KR) h k (by omega)
    have b := h k (by omega)
    have d := decB_size 0 (KR k).toNat
    rw [rnkS]
    simp only [ByteArray.size_append, bar_size]
    omega
theorem orB_le {s : ByteArray} (h : orE bodyT s = true) : s.size ≤ 100 := by
  unfold orE at h
  by_cases z : s.size = 0
  · omega
  · rw [if_neg z] at h; exact bodyT_le h
theorem roomT_small {nm : ByteArray} {nx : Int} {sb : ByteArray} {n : Nat} {U N : Nat → ByteArray} {R : Nat → Int} {z : Nat} {KU : Nat → ByteArray} {KR : Nat → Int} (h : roomT nm nx sb n U N R z KU KR = true) :
    userT nm = true ∧ nm.size ≤ 100 ∧ (0 ≤ nx ∧ nx < 10000) ∧ sb.size ≤ 100 ∧ n ≤ 5 ∧ z ≤ 6 ∧ (∀ j, j < n → userT (U j) = true ∧ (U j).size ≤ 100 ∧ (N j).size ≤ 100 ∧ 0 ≤ R j ∧ R j < 10) ∧ (∀ j, j < z → userT (KU j) = true ∧ (KU j).size ≤ 100 ∧ 0 ≤ KR j ∧ KR j < 10) := by
  unfold roomT memsT ranksT at h
  simp only [Bool.and_eq_true, decide_eq_true_eq] at h
  obtain ⟨h1, h2, h3, ⟨h4, h5⟩, ⟨h6, h7⟩, -⟩ := h
  have i2 := inI_le h2
  refine ⟨h1, userT_le h1, by omega, orB_le h3, h5, h7, fun j hj => ?_, fun j hj => ?_⟩
  · have m := allTo_at _ n h4 j hj
    unfold memOne at m
    simp only [Bool.and_eq_true] at m
    obtain ⟨a, b, c, -⟩ := m
    have i3 := inI_le c
    exact ⟨a, userT_le a, nickT_le b, by omega, by omega⟩
  · have m := allTo_at _ z h6 j hj
    unfold rankOne at m
    simp only [Bool.and_eq_true] at m
    obtain ⟨a, b, -⟩ := m
    have i3 := inI_le b
    exact ⟨a, userT_le a, by omega, by omega⟩
end Go.Proofs.YtglbjibilllopaaDoor.Hub
