/-
  What a word is and what a body: impl.isWord, impl.isBody, impl.isBetween and the model's l5Word, l5Body answer wordT, bodyT at every text.
-/
import Derived.Test.YtglbjibilllopaaDoorJidUser
import Derived.Test.YtglbjibilllopaaDoorJidSpec
namespace Go.Proofs.YtglbjibilllopaaDoor.Hub
open Go.RowKit
set_option linter.unusedVariables false

def wordB (c : Int) : Bool := decide (33 ≤ c ∧ c ≤ 126)
def wordT (s : ByteArray) : Bool := decide (1 ≤ s.size ∧ s.size ≤ 12) && eachB wordB s
def bodyT (s : ByteArray) : Bool := decide (1 ≤ s.size ∧ s.size ≤ 60) && okT s
/-- A number between two. -/
def inI (n a b : Int) : Bool := decide (a ≤ n) && decide (n ≤ b)

theorem isBetween_any (n a b : Int) (w : World) :
    Calls Tryd.prog 46 #[.int .i64 n, .int .i64 a, .int .i64 b] w fun e w' => e = .returned (.bool (inI n a b)) ∧ w' = w := by
  by_cases h1 : a ≤ n
  · by_cases h2 : n ≤ b
    · go_enter Tryd.func46, Tryd.ntmps46
      go_wp2_with fail
      go_ret
      exact ⟨ret_bool (by unfold inI; first | (simp; done) | (simp; omega) | (rw [Bool.eq_iff_iff]; simp; omega)), rfl⟩
    · go_enter Tryd.func46, Tryd.ntmps46
      go_wp2_with fail
      go_ret
      exact ⟨ret_bool (by unfold inI; first | (simp; done) | (simp; omega) | (rw [Bool.eq_iff_iff]; simp; omega)), rfl⟩
  · go_enter Tryd.func46, Tryd.ntmps46
    go_wp2_with fail
    go_ret
    exact ⟨ret_bool (by unfold inI; first | (simp; done) | (simp; omega) | (rw [Bool.eq_iff_iff]; simp; omega)), rfl⟩

set_option maxHeartbeats 800000 in
theorem isBody_any (s : ByteArray) (w : World) (hs : s.size ≤ 9223372036854775800) (hT : Tabs w) :
    Calls Tryd.prog 47 #[.string s] w fun e w' => e = .returned (.bool (bodyT s)) ∧ Below w.heap.size w w' := by
  rcases (by omega : s.size = 0 ∨ (1 ≤ s.size ∧ s.size ≤ 60) ∨ 60 < s.size) with h0 | h0 | h0
  · have hz := size_zero s h0
    subst hz
    go_enter Tryd.func47, Tryd.ntmps47
    go_wp2_with fail
    go_ret
    exact ⟨rfl, Below.refl _ _⟩
  · have he : s.toList.isEmpty = false := not_empty s (by omega)
    have hg : (s.size : Int) ≤ 60 := by omega
    have hu : bodyT s = okT s := by unfold bodyT; rw [decide_eq_true h0]; rfl
    have hO := textOk_any s w hs hT
    rw [hu]
    obtain ⟨R, hR⟩ : ∃ R, okT s = R := ⟨_, rfl⟩
    rw [hR] at hO ⊢
    clear hu hR
    cases R
    all_goals
      go_enter Tryd.func47, Tryd.ntmps47
      go_wp2_with (go_at_call 73; refine hO.mono ?_; rintro e w1 ⟨rfl, b1⟩)
      go_ret
      exact ⟨rfl, b1⟩
  · have he : s.toList.isEmpty = false := not_empty s (by omega)
    have hg : decide ((s.size : Int) ≤ 60) = false := by simp; omega
    have hu : bodyT s = false := by unfold bodyT; rw [decide_eq_false (by omega)]; rfl
    rw [hu]
    clear hu
    go_enter Tryd.func47, Tryd.ntmps47
    go_wp2_with fail
    go_ret
    exact ⟨rfl, Below.refl _ _⟩
set_option maxHeartbeats 800000 in
theorem l5Body_any (s : ByteArray) (w : World) (hs : s.size ≤ 9223372036854775800) :
    Calls Tryd.prog 37 #[.string s] w fun e w' => e = .returned (.bool (bodyT s)) ∧ Below w.heap.size w w' := by
  have hU := l1Utf_any s w hs
  have hu : bodyT s = (okT s && (decide ((1 : Int) ≤ (s.size : Int)) && decide ((s.size : Int) ≤ 60))) := by
    unfold bodyT
    rw [Bool.and_comm, ← Bool.decide_and]
    congr 2
    simp only [eq_iff_iff]
    omega
  rw [hu]
  obtain ⟨R, hR⟩ : ∃ R, okT s = R := ⟨_, rfl⟩
  rw [hR] at hU ⊢
  clear hu hR
  cases R
  all_goals
    go_enter Tryd.func37, Tryd.ntmps37
    go_wp2_with (first | (go_at_call 66; refine hU.mono ?_; rintro e w1 ⟨rfl, b1⟩) | (go_at_call 36; refine (l1In_any _ _ _ _).mono ?_; rintro e w' ⟨rfl, rfl⟩))
    go_ret
    exact ⟨ret_bool (by simp), b1⟩
end Go.Proofs.YtglbjibilllopaaDoor.Hub
