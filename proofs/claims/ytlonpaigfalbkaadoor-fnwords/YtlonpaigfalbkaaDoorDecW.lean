/-
  What a sign read as a rune says of the bytes of words: no program in it.
-/
import Derived.Test.YtlonpaigfalbkaaDoorWordsS
import Derived.Lib.DecodeN
namespace Go.Proofs.YtlonpaigfalbkaaDoor.Hub
open Go.RowKit
set_option linter.unusedVariables false
set_option linter.unusedSimpArgs false

theorem dec_big (n b0 b1 b2 b3 : Nat) (h : 128 ≤ b0) (hn : 1 ≤ n) :
    128 ≤ (Lib.decodeN n b0 b1 b2 b3).1 ∧ 1 ≤ (Lib.decodeN n b0 b1 b2 b3).2 ∧ (Lib.decodeN n b0 b1 b2 b3).2 ≤ n ∧ (1 < (Lib.decodeN n b0 b1 b2 b3).2 → 128 ≤ b1) ∧ (2 < (Lib.decodeN n b0 b1 b2 b3).2 → 128 ≤ b2) ∧ (3 < (Lib.decodeN n b0 b1 b2 b3).2 → 128 ≤ b3) ∧ (Lib.decodeN n b0 b1 b2 b3).2 ≤ 4 := by
  unfold Lib.decodeN
  rw [if_neg (by omega)]
  split
  · split
    all_goals
      refine ⟨?_, ?_, ?_, ?_, ?_, ?_, ?_⟩
      all_goals (try intro _)
      all_goals first | omega | (simp only [] at *; omega) | (dsimp only at *; omega)
  · split
    · split
      all_goals
        refine ⟨?_, ?_, ?_, ?_, ?_, ?_, ?_⟩
        all_goals (try intro _)
        all_goals first | omega | (simp only [] at *; omega) | (dsimp only at *; omega)
    · split
      · split
        all_goals
          refine ⟨?_, ?_, ?_, ?_, ?_, ?_, ?_⟩
          all_goals (try intro _)
          all_goals first | omega | (simp only [] at *; omega) | (dsimp only at *; omega)
      · refine ⟨?_, ?_, ?_, ?_, ?_, ?_, ?_⟩
        all_goals (try intro _)
        all_goals first | omega | (simp only [] at *; omega) | (dsimp only at *; omega)
theorem get_at (s : ByteArray) (i : Nat) (h : i < s.size) : s.get! i = s[i] := by
  show s.data[i]! = _
  rw [getElem!_pos s.data i h]
  rfl
theorem letAt_big (s : ByteArray) (i : Nat) (h : i < s.size) (hb : 128 ≤ (s.get! i).toNat) : letAt s i = true := by
  rw [letAt_in s i h]
  rw [get_at s i h] at hb
  exact decide_eq_true (.inr (.inr (.inr hb)))
theorem dec_small (s : ByteArray) (i : Nat) (h : i < s.size) (hb : s[i].toNat < 128) : Utf8.decode s i = (s[i].toNat, 1) := by
  rw [Lib.decode_at, get_at s i h]
  unfold Lib.decodeN
  rw [if_pos hb]
theorem dec_word (s : ByteArray) (i : Nat) (h : i < s.size) (hb : 128 ≤ s[i].toNat) :
    128 ≤ (Utf8.decode s i).1 ∧ 1 ≤ (Utf8.decode s i).2 ∧ i + (Utf8.decode s i).2 ≤ s.size ∧ ∀ t, t < (Utf8.decode s i).2 → letAt s (i + t) = true := by
  have hg := get_at s i h
  rw [Lib.decode_at]
  obtain ⟨a, b, c, d1, d2, d3, d4⟩ := dec_big (s.size - i) (s.get! i).toNat (s.get! (i + 1)).toNat (s.get! (i + 2)).toNat (s.get! (i + 3)).toNat (by rw [hg]; exact hb) (by omega)
  generalize Lib.decodeN (s.size - i) (s.get! i).toNat (s.get! (i + 1)).toNat (s.get! (i + 2)).toNat (s.get! (i + 3)).toNat = d at *
  refine ⟨a, b, by omega, fun t ht => ?_⟩
  rcases (by omega : t = 0 ∨ t = 1 ∨ t = 2 ∨ t = 3) with e | e | e | e
  · subst e; exact letAt_big s (i + 0) (by omega) (by rw [Nat.add_zero, hg]; exact hb)
  · subst e; exact letAt_big s (i + 1) (by omega) (d1 (by omega))
  · subst e; exact letAt_big s (i + 2) (by omega) (d2 (by omega))
  · subst e; exact letAt_big s (i + 3) (by omega) (d3 (by omega))
/-- Runs of bytes of words, from one place on. -/
theorem run_skip (s : ByteArray) : ∀ (n k : Nat), k + n ≤ s.size → (∀ t, t < n → letAt s (k + t) = true) → runEnd s (s.size - k) k = runEnd s (s.size - (k + n)) (k + n)
  | 0, k, _, _ => rfl
  | n + 1, k, hk, h => by
    have h0 := h 0 (by omega)
    rw [Nat.add_zero, letAt_in s k (by omega)] at h0
    rw [run_go s k (by omega) h0, run_skip s n (k + 1) (by omega) (fun t ht => by have := h (t + 1) (by omega); rw [show k + 1 + t = k + (t + 1) by omega]; exact this)]
    rw [show k + 1 + n = k + (n + 1) by omega]
end Go.Proofs.YtlonpaigfalbkaaDoor.Hub
