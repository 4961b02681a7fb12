/-
  For every byte: what impl.userByte, hostByte, nickByte and spec.l4Small answer; and impl.isEach at each of the three: whether each byte of a text is one of those.
-/
import Derived.Test.YtglbjibilllopaaDoorJidPlain
import Derived.WalkKit
import Derived.ProofKit
import Derived.WalkLawsBesides
import Derived.WalkSpells
namespace Go.Proofs.YtglbjibilllopaaDoor.Hub
open Go.RowKit
set_option linter.unusedVariables false

theorem jparts (c : Int) : c < 32 ∨ (32 ≤ c ∧ c < 45) ∨ c = 45 ∨ c = 46 ∨ c = 47 ∨ (48 ≤ c ∧ c ≤ 57) ∨ (57 < c ∧ c < 95) ∨ c = 95 ∨ c = 96 ∨ (97 ≤ c ∧ c ≤ 122) ∨ (122 < c ∧ c < 127) ∨ c = 127 ∨ 127 < c := by omega
set_option maxHeartbeats 800000 in
theorem userByte_any (c : Int) (w : World) :
    Calls Tryd.prog 72 #[.int .u8 c] w fun e w' => e = .returned (.bool (userB c)) ∧ w' = w := by
  rcases jparts c with h | h | h | h | h | h | h | h | h | h | h | h | h
  all_goals
    go_enter Tryd.func72, Tryd.ntmps72
    go_wp2
    go_ret
    exact ⟨ret_bool (by unfold userB; first | (simp; done) | (simp; omega) | (rw [Bool.eq_iff_iff]; simp; omega)), rfl⟩
set_option maxHeartbeats 800000 in
theorem nickByte_any (c : Int) (w : World) :
    Calls Tryd.prog 85 #[.int .u8 c] w fun e w' => e = .returned (.bool (nickB c)) ∧ w' = w := by
  rcases jparts c with h | h | h | h | h | h | h | h | h | h | h | h | h
  all_goals
    go_enter Tryd.func85, Tryd.ntmps85
    go_wp2
    go_ret
    exact ⟨ret_bool (by unfold nickB; first | (simp; done) | (simp; omega) | (rw [Bool.eq_iff_iff]; simp; omega)), rfl⟩
set_option maxHeartbeats 800000 in
theorem l4Small_any (c : Int) (w : World) :
    Calls Tryd.prog 65 #[.int .u8 c] w fun e w' => e = .returned (.bool (smallB c)) ∧ w' = w := by
  rcases jparts c with h | h | h | h | h | h | h | h | h | h | h | h | h
  all_goals
    go_enter Tryd.func65, Tryd.ntmps65
    go_wp2
    go_ret
    exact ⟨ret_bool (by unfold smallB; first | (simp; done) | (simp; omega) | (rw [Bool.eq_iff_iff]; simp; omega)), rfl⟩
set_option maxHeartbeats 800000 in
theorem each_userByte (s : ByteArray) (w : World) (hs : s.size ≤ 9223372036854775800) :
    Calls Tryd.prog 71 #[.string s, .func (.func 72) #[] #[]] w fun e w' => e = .returned (.bool (eachB userB s)) ∧ w' = w := by
  obtain ⟨R, hR⟩ : ∃ R, eachB userB s = R := ⟨_, rfl⟩
  have HR : Hid (eachB userB s = R) := hR
  rw [hR]
  clear hR
  go_enter Tryd.func71, Tryd.ntmps71
  go_wp2_with fail
  go_loop [8] (fun i => ∃ k : Nat, k ≤ s.size ∧ i = .int .i64 k ∧ Hid (((s.data.toList.take k).all fun b => userB (b.toNat : Int)) = true)) (fun i => s.size - (intOf i).toNat)
  case atStart => exact ⟨0, Nat.zero_le _, rfl, (by simp : ((s.data.toList.take 0).all fun b => userB (b.toNat : Int)) = true)⟩
  case round =>
    obtain ⟨k, hk, rfl, HA⟩ := hrel
    by_cases hlt : k < s.size
    · have hN := fun w => userByte_any ((s[k].toNat : Int)) w
      cases hin : userB (s[k].toNat : Int)
      · have hRf : R = false := by rw [← HR.out]; exact all_take_false s _ k hlt hin
        rw [hin] at hN
        subst hRf
        clear HA HR hin
        go_wp2_with (go_at_call 72; refine (hN _).mono ?_; rintro e w' ⟨rfl, rfl⟩)
        go_ret
        exact ⟨rfl, rfl⟩
      · have HB : Hid (((s.data.toList.take (k + 1)).all fun b => userB (b.toNat : Int)) = true) := (by rw [all_take_succ s _ k hlt, HA.out, hin]; rfl : ((s.data.toList.take (k + 1)).all fun b => userB (b.toNat : Int)) = true)
        rw [hin] at hN
        clear HA hin
        go_wp2_with (go_at_call 72; refine (hN _).mono ?_; rintro e w' ⟨rfl, rfl⟩)
        go_round
        case rel => exact ⟨k + 1, by omega, by go_num, HB⟩
        case measure => simp [intOf]; omega
    · obtain rfl : k = s.size := by omega
      have hRt : R = true := by rw [← HR.out, ← all_take_end]; exact HA.out
      subst hRt
      clear HA HR
      go_wp2_with fail
      go_ret
      exact ⟨rfl, rfl⟩
set_option maxHeartbeats 800000 in
theorem each_nickByte (s : ByteArray) (w : World) (hs : s.size ≤ 9223372036854775800) :
    Calls Tryd.prog 71 #[.string s, .func (.func 85) #[] #[]] w fun e w' => e = .returned (.bool (eachB nickB s)) ∧ w' = w := by
  obtain ⟨R, hR⟩ : ∃ R, eachB nickB s = R := ⟨_, rfl⟩
  have HR : Hid (eachB nickB s = R) := hR
  rw [hR]
  clear hR
  go_enter Tryd.func71, Tryd.ntmps71
  go_wp2_with fail
  go_loop [8] (fun i => ∃ k : Nat, k ≤ s.size ∧ i = .int .i64 k ∧ Hid (((s.data.toList.take k).all fun b => nickB (b.toNat : Int)) = true)) (fun i => s.size - (intOf i).toNat)
  case atStart => exact ⟨0, Nat.zero_le _, rfl, (by simp : ((s.data.toList.take 0).all fun b => nickB (b.toNat : Int)) = true)⟩
  case round =>
    obtain ⟨k, hk, rfl, HA⟩ := hrel
    by_cases hlt : k < s.size
    · have hN := fun w => nickByte_any ((s[k].toNat : Int)) w
      cases hin : nickB (s[k].toNat : Int)
      · have hRf : R = false := by rw [← HR.out]; exact all_take_false s _ k hlt hin
        rw [hin] at hN
        subst hRf
        clear HA HR hin
        go_wp2_with (go_at_call 85; refine (hN _).mono ?_; rintro e w' ⟨rfl, rfl⟩)
        go_ret
        exact ⟨rfl, rfl⟩
      · have HB : Hid (((s.data.toList.take (k + 1)).all fun b => nickB (b.toNat : Int)) = true) := (by rw [all_take_succ s _ k hlt, HA.out, hin]; rfl : ((s.data.toList.take (k + 1)).all fun b => nickB (b.toNat : Int)) = true)
        rw [hin] at hN
        clear HA hin
        go_wp2_with (go_at_call 85; refine (hN _).mono ?_; rintro e w' ⟨rfl, rfl⟩)
        go_round
        case rel => exact ⟨k + 1, by omega, by go_num, HB⟩
        case measure => simp [intOf]; omega
    · obtain rfl : k = s.size := by omega
      have hRt : R = true := by rw [← HR.out, ← all_take_end]; exact HA.out
      subst hRt
      clear HA HR
      go_wp2_with fail
      go_ret
      exact ⟨rfl, rfl⟩
end Go.Proofs.YtglbjibilllopaaDoor.Hub
