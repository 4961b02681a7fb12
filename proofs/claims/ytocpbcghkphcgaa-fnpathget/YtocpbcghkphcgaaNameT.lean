/-
  What a name is: the program's NameOk and the model's l2Name.
-/
import Derived.Test.YtocpbcghkphcgaaRows
import Derived.WalkKit
import Derived.ProofKit
import Derived.OpenShut
import Derived.ShutString
import Derived.WalkLawsBesides
import Derived.WalkSpells
namespace Go.Proofs.Ytocpbcghkphcgaa.Hub
open Go.ChangeShapes Go.WideShapes Go.ChangeAt Go.RowKit
open Go.ChangeMaps (open_string shut_string)
set_option linter.unusedVariables false
theorem ret_bool {a b : Bool} (h : a = b) : Ending.returned (.bool a) = .returned (.bool b) := by rw [h]
def leadB (c : Int) : Bool := decide ((97 ≤ c ∧ c ≤ 122) ∨ (65 ≤ c ∧ c ≤ 90) ∨ c = 95)
def insB (c : Int) : Bool := decide ((97 ≤ c ∧ c ≤ 122) ∨ (65 ≤ c ∧ c ≤ 90) ∨ c = 95 ∨ (48 ≤ c ∧ c ≤ 57) ∨ c = 45 ∨ c = 46)

/-- Each place in which a byte can lie against the bounds of the two sets. -/
theorem parts (c : Int) : c < 45 ∨ c = 45 ∨ c = 46 ∨ c = 47 ∨ (48 ≤ c ∧ c ≤ 57) ∨ (57 < c ∧ c < 65) ∨ (65 ≤ c ∧ c ≤ 90) ∨ (90 < c ∧ c < 95) ∨ c = 95 ∨ c = 96 ∨ (97 ≤ c ∧ c ≤ 122) ∨ 122 < c := by omega

set_option maxHeartbeats 800000 in
theorem nameStart_any (c : Int) (w : World) :
    Calls Try.prog 53 #[.int .u8 c] w fun e w' => e = .returned (.bool (leadB c)) ∧ w' = w := by
  rcases parts c with h | h | h | h | h | h | h | h | h | h | h | h
  all_goals
    go_enter Try.func53, Try.ntmps53
    go_wp2
    go_ret
    exact ⟨ret_bool (by unfold leadB; first | (simp; done) | (simp; omega) | (rw [Bool.eq_iff_iff]; simp; omega)), rfl⟩
set_option maxHeartbeats 800000 in
theorem l2Lead_any (c : Int) (w : World) :
    Calls Try.prog 55 #[.int .u8 c] w fun e w' => e = .returned (.bool (leadB c)) ∧ w' = w := by
  rcases parts c with h | h | h | h | h | h | h | h | h | h | h | h
  all_goals
    go_enter Try.func55, Try.ntmps55
    go_wp2
    go_ret
    exact ⟨ret_bool (by unfold leadB; first | (simp; done) | (simp; omega) | (rw [Bool.eq_iff_iff]; simp; omega)), rfl⟩
set_option maxHeartbeats 800000 in
theorem nameByte_any (c : Int) (w : World) :
    Calls Try.prog 54 #[.int .u8 c] w fun e w' => e = .returned (.bool (insB c)) ∧ w' = w := by
  rcases parts c with h | h | h | h | h | h | h | h | h | h | h | h
  all_goals
    go_enter Try.func54, Try.ntmps54
    go_wp2
    go_ret
    exact ⟨ret_bool (by unfold insB; first | (simp; done) | (simp; omega) | (rw [Bool.eq_iff_iff]; simp; omega)), rfl⟩
set_option maxHeartbeats 800000 in
theorem l2In_any (c : Int) (w : World) :
    Calls Try.prog 43 #[.int .u8 c] w fun e w' => e = .returned (.bool (insB c)) ∧ w' = w := by
  rcases parts c with h | h | h | h | h | h | h | h | h | h | h | h
  all_goals
    go_enter Try.func43, Try.ntmps43
    go_wp2
    go_ret
    exact ⟨ret_bool (by unfold insB; first | (simp; done) | (simp; omega) | (rw [Bool.eq_iff_iff]; simp; omega)), rfl⟩

/-- What a name is: one to twelve bytes, each one that may stand in it, the first one that may begin it. -/
def NameP (s : ByteArray) : Prop := 1 ≤ s.size ∧ s.size ≤ 12 ∧ (∀ (j : Nat) (h : j < s.size), insB (s[j].toNat : Int) = true) ∧ ∀ h : 0 < s.size, leadB (s[0].toNat : Int) = true

/-- The call returns a bool that is true just if p, and the world is as it was. -/
def Tells (p : Prop) (w : World) (e : Ending) (w' : World) : Prop := ∃ b : Bool, e = .returned (.bool b) ∧ (b = true ↔ p) ∧ w' = w

set_option maxHeartbeats 800000 in
theorem l2Name_any (s : ByteArray) (w : World) (hs : s.size ≤ maxLen) :
    Calls Try.prog 45 #[.string s] w fun e w' => Tells (NameP s) w e w' := by
  unfold maxLen at hs
  go_enter Try.func45, Try.ntmps45
  go_wp2_with fail
  go_loop [3] (fun i => ∃ k : Nat, k ≤ s.size ∧ i = .int .i64 k ∧ ∀ (j : Nat) (h : j < s.size), j < k → insB (s[j].toNat : Int) = true) (fun i => s.size - (intOf i).toNat)
  case atStart => exact ⟨0, Nat.zero_le _, rfl, fun j h hj => by omega⟩
  case round =>
    obtain ⟨k, hk, rfl, hall⟩ := hrel
    have HA : Hid (∀ (j : Nat) (h : j < s.size), j < k → insB (s[j].toNat : Int) = true) := hall
    clear hall
    by_cases hlt : k < s.size
    · cases hin : insB (s[k].toNat : Int)
      · go_wp2_with (go_at_call 43; refine (l2In_any _ _).mono ?_; rintro e w' ⟨rfl, rfl⟩)
        go_ret
        exact ⟨false, rfl, ⟨fun h => (by cases h), fun h => by have := h.2.2.1 k hlt; rw [hin] at this; cases this⟩, rfl⟩
      · go_wp2_with (go_at_call 43; refine (l2In_any _ _).mono ?_; rintro e w' ⟨rfl, rfl⟩)
        go_round
        case rel => exact ⟨k + 1, by omega, by go_num, fun j h hj => by
          by_cases e : j = k
          · subst e; exact hin
          · exact HA.out j h (by omega)⟩
        case measure => simp [intOf]; omega
    · have hk' : k = s.size := by omega
      have HB : Hid (∀ (j : Nat) (h : j < s.size), insB (s[j].toNat : Int) = true) := fun j h => HA.out j h (by omega)
      clear HA
      subst hk'
      rcases (by omega : s.size = 0 ∨ (1 ≤ s.size ∧ s.size ≤ 12) ∨ 12 < s.size) with h0 | h0 | h0
      · have hz : ¬ (1 : Int) ≤ (s.size : Int) := by omega
        go_wp2_with (first | (go_at_call 34; go_in) | (go_at_call 55; refine (l2Lead_any _ _).mono ?_; rintro e w' ⟨rfl, rfl⟩))
        go_ret
        exact ⟨false, rfl, ⟨fun h => (by cases h), fun h => by have := h.1; omega⟩, rfl⟩
      · have h1 : (1 : Int) ≤ (s.size : Int) := by omega
        have h2 : (s.size : Int) ≤ 12 := by omega
        have h3 : 0 < s.size := by omega
        cases hl : leadB (s[0].toNat : Int)
        all_goals
          go_wp2_with (first | (go_at_call 34; go_in) | (go_at_call 55; refine (l2Lead_any _ _).mono ?_; rintro e w' ⟨rfl, rfl⟩))
          go_ret
        · exact ⟨false, rfl, ⟨fun h => (by cases h), fun h => by have := h.2.2.2 h3; rw [hl] at this; cases this⟩, rfl⟩
        · exact ⟨true, rfl, ⟨fun _ => ⟨by omega, by omega, HB.out, fun _ => hl⟩, fun _ => rfl⟩, rfl⟩
      · have h1 : (1 : Int) ≤ (s.size : Int) := by omega
        have h2 : ¬ (s.size : Int) ≤ 12 := by omega
        go_wp2_with (first | (go_at_call 34; go_in) | (go_at_call 55; refine (l2Lead_any _ _).mono ?_; rintro e w' ⟨rfl, rfl⟩))
        go_ret
        exact ⟨false, rfl, ⟨fun h => (by cases h), fun h => by have := h.2.1; omega⟩, rfl⟩

theorem size_empty (s : ByteArray) (h : s.size = 0) : s = ⟨#[]⟩ := by
  have : s.data = #[] := by apply Array.eq_empty_of_size_eq_zero; exact h
  cases s; simp_all

theorem not_empty (s : ByteArray) (h : 0 < s.size) : s.toList.isEmpty = false := by
  cases hb : s.toList.isEmpty
  · rfl
  · have h1 : s.toList = [] := by simpa using hb
    rw [ByteArray.toList_eq] at h1
    have h2 : s.data.toList.length = s.size := rfl
    rw [h1] at h2
    simp at h2
    omega

set_option maxHeartbeats 800000 in
theorem nameOk_any (s : ByteArray) (w : World) (hs : s.size ≤ maxLen) :
    Calls Try.prog 39 #[.string s] w fun e w' => Tells (NameP s) w e w' := by
  unfold maxLen at hs
  rcases (by omega : s.size = 0 ∨ (1 ≤ s.size ∧ s.size ≤ 12) ∨ 12 < s.size) with h0 | h0 | h0
  · have hz := size_empty s h0
    subst hz
    go_enter Try.func39, Try.ntmps39
    go_wp2_with fail
    go_ret
    exact ⟨false, rfl, ⟨fun h => (by cases h), fun h => by have := h.1; omega⟩, rfl⟩
  · have h3 : 0 < s.size := by omega
    have he : s.toList.isEmpty = false := not_empty s h3
    have hg : decide ((12 : Int) < (s.size : Int)) = false := by simp; omega
    cases hl : leadB (s[0].toNat : Int)
    · go_enter Try.func39, Try.ntmps39
      go_wp2_with (go_at_call 53; refine (nameStart_any _ _).mono ?_; rintro e w' ⟨rfl, rfl⟩)
      go_ret
      exact ⟨false, rfl, ⟨fun h => (by cases h), fun h => by have := h.2.2.2 h3; rw [hl] at this; cases this⟩, rfl⟩
    · go_enter Try.func39, Try.ntmps39
      go_wp2_with (go_at_call 53; refine (nameStart_any _ _).mono ?_; rintro e w' ⟨rfl, rfl⟩)
      go_loop [19] (fun i => ∃ k : Nat, k ≤ s.size ∧ i = .int .i64 k ∧ ∀ (j : Nat) (h : j < s.size), j < k → insB (s[j].toNat : Int) = true) (fun i => s.size - (intOf i).toNat)
      case atStart => exact ⟨0, Nat.zero_le _, rfl, fun j h hj => by omega⟩
      case round =>
        obtain ⟨k, hk, rfl, hall⟩ := hrel
        have HA : Hid (∀ (j : Nat) (h : j < s.size), j < k → insB (s[j].toNat : Int) = true) := hall
        clear hall
        by_cases hlt : k < s.size
        · cases hin : insB (s[k].toNat : Int)
          · go_wp2_with (go_at_call 54; refine (nameByte_any _ _).mono ?_; rintro e w' ⟨rfl, rfl⟩)
            go_ret
            exact ⟨false, rfl, ⟨fun h => (by cases h), fun h => by have := h.2.2.1 k hlt; rw [hin] at this; cases this⟩, rfl⟩
          · go_wp2_with (go_at_call 54; refine (nameByte_any _ _).mono ?_; rintro e w' ⟨rfl, rfl⟩)
            go_round
            case rel => exact ⟨k + 1, by omega, by go_num, fun j h hj => by
              by_cases e : j = k
              · subst e; exact hin
              · exact HA.out j h (by omega)⟩
            case measure => simp [intOf]; omega
        · go_wp2_with fail
          go_ret
          exact ⟨true, rfl, ⟨fun _ => ⟨by omega, by omega, fun j h => HA.out j h (by omega), fun _ => hl⟩, fun _ => rfl⟩, rfl⟩
  · have h3 : 0 < s.size := by omega
    have he : s.toList.isEmpty = false := not_empty s h3
    have hg : decide ((12 : Int) < (s.size : Int)) = true := by simp; omega
    go_enter Try.func39, Try.ntmps39
    go_wp2_with fail
    go_ret
    exact ⟨false, rfl, ⟨fun h => (by cases h), fun h => by have := h.2.1; omega⟩, rfl⟩

instance (s : ByteArray) : Decidable (NameP s) := by unfold NameP; infer_instance
/-- Whether a text is a name. -/
def nameT (s : ByteArray) : Bool := decide (NameP s)
theorem tells_is {p : Prop} [Decidable p] {w w' : World} {e : Ending} (h : Tells p w e w') : e = .returned (.bool (decide p)) ∧ w' = w := by
  obtain ⟨b, rfl, hb, hw⟩ := h
  refine ⟨?_, hw⟩
  cases b
  · rw [decide_eq_false (fun c => by have := hb.2 c; cases this)]
  · rw [decide_eq_true (hb.1 rfl)]
theorem nameOk_is (s : ByteArray) (w : World) (hs : s.size ≤ maxLen) : Calls Try.prog 39 #[.string s] w fun e w' => e = .returned (.bool (nameT s)) ∧ w' = w := (nameOk_any s w hs).mono (fun e w' h => tells_is h)
theorem l2Name_is (s : ByteArray) (w : World) (hs : s.size ≤ maxLen) : Calls Try.prog 45 #[.string s] w fun e w' => e = .returned (.bool (nameT s)) ∧ w' = w := (l2Name_any s w hs).mono (fun e w' h => tells_is h)
theorem name_none : nameT ⟨#[]⟩ = false := decide_eq_false (fun h => by have h1 : 1 ≤ (⟨#[]⟩ : ByteArray).size := h.1; exact absurd h1 (by decide))
end Go.Proofs.Ytocpbcghkphcgaa.Hub
