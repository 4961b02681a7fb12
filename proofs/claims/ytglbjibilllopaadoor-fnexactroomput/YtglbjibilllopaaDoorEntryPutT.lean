/-
  An entry that is ok has small parts; how the model writes any entry.
-/
import Derived.Test.YtglbjibilllopaaDoorEntrySpec
import Derived.Test.YtglbjibilllopaaDoorEntryPutS
namespace Go.Proofs.YtglbjibilllopaaDoor.Hub
open Go.RowKit
set_option linter.unusedVariables false

theorem userT_le {s : ByteArray} (h : userT s = true) : s.size ≤ 100 := by
  unfold userT at h; simp only [Bool.and_eq_true, decide_eq_true_eq] at h; omega
theorem nickT_le {s : ByteArray} (h : nickT s = true) : s.size ≤ 100 := by
  unfold nickT at h; simp only [Bool.and_eq_true, decide_eq_true_eq] at h; omega
theorem wordT_le {s : ByteArray} (h : wordT s = true) : s.size ≤ 100 := by
  unfold wordT at h; simp only [Bool.and_eq_true, decide_eq_true_eq] at h; omega
theorem bodyT_le {s : ByteArray} (h : bodyT s = true) : s.size ≤ 100 := by
  unfold bodyT at h; simp only [Bool.and_eq_true, decide_eq_true_eq] at h; omega
theorem noT_le {s : ByteArray} (h : noT s = true) : s.size ≤ 100 := by
  unfold noT at h; simp only [decide_eq_true_eq] at h; omega
theorem orW_le {s : ByteArray} (h : orE wordT s = true) : s.size ≤ 100 := by
  unfold orE at h
  by_cases z : s.size = 0
  · omega
  · rw [if_neg z] at h; exact wordT_le h
theorem inI_le {n a b : Int} (h : inI n a b = true) : a ≤ n ∧ n ≤ b := by
  unfold inI at h; simp only [Bool.and_eq_true, decide_eq_true_eq] at h; exact h

theorem bareT_small {k : Int} {n t i f : ByteArray} {m : Int} (h : bareT k n t i f m = true) :
    (0 ≤ k ∧ k < 10) ∧ (0 ≤ m ∧ m < 10) ∧ n.size ≤ 100 ∧ t.size ≤ 100 ∧ i.size ≤ 100 ∧ f.size ≤ 100 := by
  unfold bareT at h
  by_cases h1 : k = 1 ∨ k = 5
  · rw [if_pos h1] at h
    simp only [Bool.and_eq_true] at h
    obtain ⟨a, b, c, d, e⟩ := h
    have := inI_le e
    exact ⟨by omega, by omega, nickT_le d, noT_le a, noT_le b, noT_le c⟩
  rw [if_neg h1] at h
  by_cases h2 : k = 2
  · rw [if_pos h2] at h
    simp only [Bool.and_eq_true] at h
    obtain ⟨a, b, c, d, e⟩ := h
    have := inI_le e
    exact ⟨by omega, by omega, nickT_le d, noT_le a, noT_le b, noT_le c⟩
  rw [if_neg h2] at h
  by_cases h3 : k = 3
  · rw [if_pos h3] at h
    simp only [Bool.and_eq_true, decide_eq_true_eq] at h
    obtain ⟨a, b, c, d, e⟩ := h
    exact ⟨by omega, by omega, nickT_le b, bodyT_le c, wordT_le d, orW_le e⟩
  rw [if_neg h3] at h
  by_cases h4 : k = 4
  · rw [if_pos h4] at h
    simp only [Bool.and_eq_true, decide_eq_true_eq] at h
    obtain ⟨a, b, c, d, e⟩ := h
    exact ⟨by omega, by omega, nickT_le c, bodyT_le d, wordT_le e, noT_le a⟩
  rw [if_neg h4] at h
  by_cases h6 : k = 6
  · rw [if_pos h6] at h
    simp only [Bool.and_eq_true] at h
    obtain ⟨a, b, c, d, e⟩ := h
    have := inI_le e
    exact ⟨by omega, by omega, noT_le a, noT_le b, noT_le c, noT_le d⟩
  rw [if_neg h6] at h
  exact absurd h (by decide)

theorem entT_small {r : ByteArray} {q k : Int} {u n t i f : ByteArray} {m : Int} (h : entT r q k u n t i f m = true) :
    (0 ≤ q ∧ q < 10000) ∧ (0 ≤ k ∧ k < 10) ∧ (0 ≤ m ∧ m < 10) ∧ r.size ≤ 100 ∧ u.size ≤ 100 ∧ n.size ≤ 100 ∧ t.size ≤ 100 ∧ i.size ≤ 100 ∧ f.size ≤ 100 := by
  unfold entT at h
  simp only [Bool.and_eq_true] at h
  obtain ⟨a, b, c, d⟩ := h
  have := inI_le c
  obtain ⟨e1, e2, e3, e4, e5, e6⟩ := bareT_small d
  exact ⟨by omega, e1, e2, userT_le a, userT_le b, e3, e4, e5, e6⟩

/-- An entry, written, or no text. -/
def eputT (r : ByteArray) (q k : Int) (u n t i f : ByteArray) (m : Int) : ByteArray :=
  if entT r q k u n t i f m = true then putT r q.toNat k.toNat u n t i f m.toNat else ⟨#[]⟩

end Go.Proofs.YtglbjibilllopaaDoor.Hub
