/-
  What a step of a path is: the texts between quotes; the program's isNoStep and the model's l12StepOk.
-/
import Derived.Test.YtocpbcghkphcgaaStepBase
import Derived.Test.YtocpbcghkphcgaaNameT
import Derived.Test.YtocpbcghkphcgaaPlain
namespace Go.Proofs.Ytocpbcghkphcgaa.Hub
open Go.RowKit
set_option linter.unusedVariables false

theorem take_snoc (s : ByteArray) (k : Nat) (h : k < s.size) : s.data.toList.take (k + 1) = s.data.toList.take k ++ [s[k]] := by
  rw [List.take_succ_eq_append_getElem (by simpa using h)]; rfl
def eachB (p : Int → Bool) (s : ByteArray) : Bool := s.data.toList.all fun b => p (b.toNat : Int)
theorem all_take_succ (s : ByteArray) (p : Int → Bool) (k : Nat) (h : k < s.size) : ((s.data.toList.take (k + 1)).all fun b => p (b.toNat : Int)) = (((s.data.toList.take k).all fun b => p (b.toNat : Int)) && p ((s[k]'h).toNat : Int)) := by
  rw [take_snoc s k h, List.all_append]
  simp
theorem all_take_false (s : ByteArray) (p : Int → Bool) (k : Nat) (h : k < s.size) (hp : p ((s[k]'h).toNat : Int) = false) : eachB p s = false := by
  unfold eachB
  rw [List.all_eq_false]
  exact ⟨s[k]'h, by show s.data.toList[k]'(by have : s.data.toList.length = s.size := rfl; omega) ∈ _; exact List.getElem_mem _, by rw [hp]; decide⟩
theorem all_take_end (s : ByteArray) (p : Int → Bool) : ((s.data.toList.take s.size).all fun b => p (b.toNat : Int)) = eachB p s := by
  unfold eachB
  rw [List.take_of_length_le (by have : s.data.toList.length = s.size := rfl; omega)]
def valB (c : Int) : Bool := decide (32 ≤ c ∧ c ≤ 126 ∧ c ≠ 39)
/-- A text that can stand between quotes. -/
def valT (s : ByteArray) : Bool := decide (s.size ≤ 10) && eachB valB s
/-- The text of a star. -/
abbrev starS : ByteArray := ⟨#[42]⟩
/-- A step. -/
def stepT (n a t : ByteArray) : Bool := (decide (n = starS) || nameT n) && (if a = ⟨#[]⟩ then decide (t = ⟨#[]⟩) else nameT a && valT t)
theorem vparts (c : Int) : c < 32 ∨ (32 ≤ c ∧ c < 39) ∨ c = 39 ∨ (39 < c ∧ c ≤ 126) ∨ 126 < c := by omega

set_option maxHeartbeats 800000 in
theorem quotedByte_any (c : Int) (w : World) :
    Calls Try.prog 41 #[.int .u8 c] w fun e w' => e = .returned (.bool (valB c)) ∧ w' = w := by
  rcases vparts c with h | h | h | h | h
  all_goals
    go_enter Try.func41, Try.ntmps41
    go_wp2
    go_ret
    exact ⟨ret_bool (by unfold valB; first | (simp; done) | (simp; omega) | (rw [Bool.eq_iff_iff]; simp; omega)), rfl⟩
set_option maxHeartbeats 800000 in
theorem each_quoted (s : ByteArray) (w : World) (hs : s.size ≤ 9223372036854775800) :
    Calls Try.prog 40 #[.string s, .func (.func 41) #[] #[]] w fun e w' => e = .returned (.bool (eachB valB s)) ∧ w' = w := by
  obtain ⟨R, hR⟩ : ∃ R, eachB valB s = R := ⟨_, rfl⟩
  have HR : Hid (eachB valB s = R) := hR
  rw [hR]
  clear hR
  go_enter Try.func40, Try.ntmps40
  go_wp2_with fail
  go_loop [8] (fun i => ∃ k : Nat, k ≤ s.size ∧ i = .int .i64 k ∧ Hid (((s.data.toList.take k).all fun b => valB (b.toNat : Int)) = true)) (fun i => s.size - (intOf i).toNat)
  case atStart => exact ⟨0, Nat.zero_le _, rfl, (by simp : ((s.data.toList.take 0).all fun b => valB (b.toNat : Int)) = true)⟩
  case round =>
    obtain ⟨k, hk, rfl, HA⟩ := hrel
    by_cases hlt : k < s.size
    · have hN := fun w => quotedByte_any ((s[k].toNat : Int)) w
      cases hin : valB (s[k].toNat : Int)
      · have hRf : R = false := by rw [← HR.out]; exact all_take_false s _ k hlt hin
        rw [hin] at hN
        subst hRf
        clear HA HR hin
        go_wp2_with (go_at_call 41; refine (hN _).mono ?_; rintro e w' ⟨rfl, rfl⟩)
        go_ret
        exact ⟨rfl, rfl⟩
      · have HB : Hid (((s.data.toList.take (k + 1)).all fun b => valB (b.toNat : Int)) = true) := (by rw [all_take_succ s _ k hlt, HA.out, hin]; rfl : ((s.data.toList.take (k + 1)).all fun b => valB (b.toNat : Int)) = true)
        rw [hin] at hN
        clear HA hin
        go_wp2_with (go_at_call 41; refine (hN _).mono ?_; rintro e w' ⟨rfl, rfl⟩)
        go_round
        case rel => exact ⟨k + 1, by omega, by go_num, HB⟩
        case measure => simp [intOf]; omega
    · obtain rfl : k = s.size := by omega
      have hRt : R = true := by rw [← HR.out, ← all_take_end]; exact HA.out
      subst hRt
      clear HA HR
      go_wp2_with fail
      go_ret
      exact ⟨rfl, rfl⟩
set_option maxRecDepth 100000 in
set_option maxHeartbeats 1600000 in
theorem l12Value_any (s : ByteArray) (w : World) (hs : s.size ≤ 9223372036854775800) :
    Calls Try.prog 46 #[.string s] w fun e w' => e = .returned (.bool (valT s)) ∧ w' = w := by
  obtain ⟨R, hR⟩ : ∃ R, valT s = R := ⟨_, rfl⟩
  have HR : Hid ((decide (s.size ≤ 10) && eachB valB s) = R) := hR
  rw [hR]
  clear hR
  go_enter Try.func46, Try.ntmps46
  go_wp2_with fail
  go_loop [3] (fun i => ∃ k : Nat, k ≤ s.size ∧ i = .int .i64 k ∧ Hid (((s.data.toList.take k).all fun b => valB (b.toNat : Int)) = true)) (fun i => s.size - (intOf i).toNat)
  case atStart => exact ⟨0, Nat.zero_le _, rfl, (by simp : ((s.data.toList.take 0).all fun b => valB (b.toNat : Int)) = true)⟩
  case round =>
    obtain ⟨k, hk, rfl, HA⟩ := hrel
    by_cases hlt : k < s.size
    · have hp := vparts (s[k].toNat : Int)
      cases hin : valB (s[k].toNat : Int)
      · have hRf : R = false := by rw [← HR.out]; rw [all_take_false s _ k hlt hin, Bool.and_false]
        subst hRf
        clear HA HR
        unfold valB at hin
        have hq := of_decide_eq_false hin
        rcases hp with h | h | h | h | h
        · go_wp2_with fail
          go_ret
          exact ⟨rfl, rfl⟩
        · exact absurd ⟨by omega, by omega, by omega⟩ hq
        · go_wp2_with fail
          go_ret
          exact ⟨rfl, rfl⟩
        · exact absurd ⟨by omega, by omega, by omega⟩ hq
        · go_wp2_with fail
          go_ret
          exact ⟨rfl, rfl⟩
      · have HB : Hid (((s.data.toList.take (k + 1)).all fun b => valB (b.toNat : Int)) = true) := (by rw [all_take_succ s _ k hlt, HA.out, hin]; rfl : ((s.data.toList.take (k + 1)).all fun b => valB (b.toNat : Int)) = true)
        unfold valB at hin
        have hq := of_decide_eq_true hin
        obtain ⟨q1, q2, q3⟩ := hq
        have q4 : ¬ (s[k].toNat : Int) < 32 := by omega
        have q5 : ¬ (127 : Int) ≤ (s[k].toNat : Int) := by omega
        clear HA hin hp
        go_wp2_with fail
        go_round
        case rel => exact ⟨k + 1, by omega, by go_num, HB⟩
        case measure => simp [intOf]; omega
    · obtain rfl : k = s.size := by omega
      have hE : eachB valB s = true := by rw [← all_take_end]; exact HA.out
      have hRt : R = decide (s.size ≤ 10) := by rw [← HR.out, hE, Bool.and_true]
      subst hRt
      clear HA HR hE
      go_wp2_with fail
      go_ret
      first | exact ⟨rfl, rfl⟩ | exact ⟨ret_bool (by rw [Bool.eq_iff_iff]; simp <;> omega), rfl⟩
end Go.Proofs.Ytocpbcghkphcgaa.Hub
