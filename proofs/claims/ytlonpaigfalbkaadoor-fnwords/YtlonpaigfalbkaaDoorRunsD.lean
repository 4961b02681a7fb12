/-
  The runs of a text, one behind the other, and the words that they leave: plain lemmas.
-/
import Derived.Test.YtlonpaigfalbkaaDoorDecW
namespace Go.Proofs.YtlonpaigfalbkaaDoor.Hub
open Go.RowKit
set_option linter.unusedVariables false
set_option linter.unusedSimpArgs false

def runsF (s : ByteArray) : Nat → Nat → List ByteArray
  | 0, _ => []
  | f + 1, k => if k < s.size then (if runEnd s (s.size - k) k = k then runsF s f (k + 1) else s.extract k (runEnd s (s.size - k) k) :: runsF s f (runEnd s (s.size - k) k)) else []
theorem runEnd_size (s : ByteArray) (k : Nat) (h : k ≤ s.size) : k ≤ runEnd s (s.size - k) k ∧ runEnd s (s.size - k) k ≤ s.size := by
  have := runEnd_le s (s.size - k) k
  omega
theorem runs_fuel (s : ByteArray) : ∀ f k, s.size - k ≤ f → runsF s f k = runsF s (s.size - k) k := by
  intro f
  induction f using Nat.strongRecOn with
  | _ f ih =>
    intro k h
    by_cases hk : k < s.size
    · obtain ⟨f', rfl⟩ : ∃ f', f = f' + 1 := ⟨f - 1, by omega⟩
      obtain ⟨g, hg⟩ : ∃ g, s.size - k = g + 1 := ⟨s.size - k - 1, by omega⟩
      have he := runEnd_size s k (by omega)
      rw [hg, runsF, runsF, if_pos hk, if_pos hk]
      rw [hg] at he
      by_cases e : runEnd s (s.size - k) k = k
      · rw [if_pos e, if_pos e, ih f' (by omega) (k + 1) (by omega), ih g (by omega) (k + 1) (by omega)]
      · rw [if_neg e, if_neg e]
        rw [hg] at e ⊢
        rw [ih f' (by omega) _ (by omega), ih g (by omega) _ (by omega)]
    · have e0 : s.size - k = 0 := by omega
      rw [e0]
      cases f with
      | zero => rfl
      | succ f =>
        show (if k < s.size then _ else []) = _
        rw [if_neg hk]
        rfl
/-- The runs from a place on. -/
def runsV (s : ByteArray) (k : Nat) : List ByteArray := runsF s (s.size - k) k
theorem runs_end (s : ByteArray) : runsV s s.size = [] := by unfold runsV; rw [Nat.sub_self]; rfl
theorem runs_skip (s : ByteArray) (k : Nat) (h : k < s.size) (hb : letAt s k = false) : runsV s k = runsV s (k + 1) := by
  rw [letAt_in s k h] at hb
  have e := run_stop s k h hb
  unfold runsV
  obtain ⟨g, hg⟩ : ∃ g, s.size - k = g + 1 := ⟨s.size - k - 1, by omega⟩
  rw [hg, runsF, if_pos h, if_pos e]
  congr 1
  omega
theorem runs_take (s : ByteArray) (k : Nat) (h : k < s.size) (hb : letAt s k = true) : k < runEnd s (s.size - k) k ∧ runsV s k = s.extract k (runEnd s (s.size - k) k) :: runsV s (runEnd s (s.size - k) k) := by
  rw [letAt_in s k h] at hb
  have e := run_go s k h hb
  have h2 := runEnd_size s (k + 1) (by omega)
  have hlt : k < runEnd s (s.size - k) k := by rw [e]; omega
  refine ⟨hlt, ?_⟩
  unfold runsV
  obtain ⟨g, hg⟩ : ∃ g, s.size - k = g + 1 := ⟨s.size - k - 1, by omega⟩
  have h3 := runEnd_size s k (by omega)
  have e9 : runsF s (s.size - k) k = s.extract k (runEnd s (s.size - k) k) :: runsF s g (runEnd s (s.size - k) k) := by
    conv => lhs; rw [hg]
    rw [runsF, if_pos h, if_neg (by omega)]
  rw [e9, runs_fuel s g _ (by omega)]
theorem add_none (L : List ByteArray) : addW L (foldT ⟨#[]⟩) = L := by
  have : foldT ⟨#[]⟩ = ⟨#[]⟩ := rfl
  rw [this]
  unfold addW
  rw [if_pos rfl]
theorem words_runs (s : ByteArray) : ∀ f k L, wordsF s f k L = (runsF s f k).foldl (fun L r => addW L (foldT r)) L
  | 0, k, L => rfl
  | f + 1, k, L => by
    rw [wordsF, runsF]
    by_cases h : k < s.size
    · rw [if_pos h, if_pos h]
      by_cases e : runEnd s (s.size - k) k = k
      · rw [if_pos e, if_pos e, e]
        have : s.extract k k = ⟨#[]⟩ := by
          apply Go.WideShapes.bytes_inj
          rw [extract_list]
          simp
        rw [this, add_none, words_runs s f (k + 1) L]
      · rw [if_neg e, if_neg e, List.foldl_cons, words_runs s f _ _]
    · rw [if_neg h, if_neg h]; rfl
theorem words_all (s : ByteArray) : wordsT s = (runsV s 0).foldl (fun L r => addW L (foldT r)) [] := by
  unfold wordsT runsV
  rw [Nat.sub_zero]
  exact words_runs s s.size 0 []
theorem runs_small (s : ByteArray) : ∀ f k, ∀ r ∈ runsF s f k, r.size ≤ s.size
  | 0, k, r, h => by cases h
  | f + 1, k, r, h => by
    rw [runsF] at h
    split at h
    · split at h
      · exact runs_small s f _ r h
      · rcases List.mem_cons.1 h with h | h
        · subst h; rw [ByteArray.size_extract]; omega
        · exact runs_small s f _ r h
    · cases h
end Go.Proofs.YtlonpaigfalbkaaDoor.Hub
