/-
  Which signs the program takes for what stands between words.
-/
import Derived.Test.YtlonpaigfalbkaaDoorDecW
namespace Go.Proofs.YtlonpaigfalbkaaDoor.Hub
open Go.RowKit
set_option linter.unusedVariables false

set_option maxRecDepth 100000 in
set_option maxHeartbeats 4000000 in
theorem apart_big (r : Nat) (h : 128 ≤ r) (w : World) :
    Calls Tryd.prog 12 #[.int .i32 (r : Int)] w fun e w' => e = .returned (.bool false) ∧ w' = w := by
  have j1 : ¬ (r : Int) ≤ 127 := by omega
  go_enter Tryd.func12, Tryd.ntmps12
  go_wp2_with fail
  go_ret
  exact ⟨rfl, rfl⟩
set_option maxRecDepth 100000 in
set_option maxHeartbeats 4000000 in
theorem smallW_any (b : UInt8) (w : World) :
    Calls Tryd.prog 19 #[.int .u8 (b.toNat : Int)] w fun e w' => e = .returned (.bool (decide (97 ≤ b.toNat ∧ b.toNat ≤ 122))) ∧ w' = w := by
  rcases (by omega : b.toNat < 97 ∨ (97 ≤ b.toNat ∧ b.toNat ≤ 122) ∨ 122 < b.toNat) with h | h | h
  all_goals
    first
      | rw [decide_eq_true (p := 97 ≤ b.toNat ∧ b.toNat ≤ 122) (by omega)]
      | rw [decide_eq_false (p := 97 ≤ b.toNat ∧ b.toNat ≤ 122) (by omega)]
    first
      | have j1 : (97 : Int) ≤ (b.toNat : Int) := by omega
      | have j1 : ¬ (97 : Int) ≤ (b.toNat : Int) := by omega
    first
      | have j2 : (b.toNat : Int) ≤ 122 := by omega
      | have j2 : ¬ (b.toNat : Int) ≤ 122 := by omega
    first
      | have j3 : decide ((b.toNat : Int) ≤ 122) = true := decide_eq_true j2
      | have j3 : decide ((b.toNat : Int) ≤ 122) = false := decide_eq_false j2
    clear h
    go_enter Tryd.func19, Tryd.ntmps19
    go_wp2_with fail
    go_ret
    exact ⟨by first | rfl | (rw [j3]; rfl), rfl⟩
set_option maxRecDepth 100000 in
set_option maxHeartbeats 4000000 in
theorem figureI_any (b : UInt8) (w : World) :
    Calls Tryd.prog 20 #[.int .u8 (b.toNat : Int)] w fun e w' => e = .returned (.bool (figW b)) ∧ w' = w := by
  rcases (by omega : b.toNat < 48 ∨ (48 ≤ b.toNat ∧ b.toNat ≤ 57) ∨ 57 < b.toNat) with h | h | h
  all_goals
    first
      | have hR : figW b = true := decide_eq_true (by omega)
      | have hR : figW b = false := decide_eq_false (by omega)
    rw [hR]
    clear hR
    first
      | have j1 : (48 : Int) ≤ (b.toNat : Int) := by omega
      | have j1 : ¬ (48 : Int) ≤ (b.toNat : Int) := by omega
    first
      | have j2 : (b.toNat : Int) ≤ 57 := by omega
      | have j2 : ¬ (b.toNat : Int) ≤ 57 := by omega
    first
      | have j3 : decide ((b.toNat : Int) ≤ 57) = true := decide_eq_true j2
      | have j3 : decide ((b.toNat : Int) ≤ 57) = false := decide_eq_false j2
    clear h
    go_enter Tryd.func20, Tryd.ntmps20
    go_wp2_with fail
    go_ret
    exact ⟨by first | rfl | (rw [j3]; rfl), rfl⟩
set_option maxRecDepth 100000 in
set_option maxHeartbeats 4000000 in
theorem apart_small (b : UInt8) (hb : b.toNat < 128) (w : World) :
    Calls Tryd.prog 12 #[.int .i32 (b.toNat : Int)] w fun e w' => e = .returned (.bool (!letB b)) ∧ w' = w := by
  have cS := fun W => smallW_any b W
  have cF := fun W => figureI_any b W
  have j0 : (b.toNat : Int) ≤ 127 := by omega
  have jc : IntKind.u8.wrap (b.toNat : Int) = (b.toNat : Int) := by show (b.toNat : Int) % 256 = _; omega
  rcases (by omega : b.toNat < 48 ∨ (48 ≤ b.toNat ∧ b.toNat ≤ 57) ∨ (57 < b.toNat ∧ b.toNat < 65) ∨ (65 ≤ b.toNat ∧ b.toNat ≤ 90) ∨ (90 < b.toNat ∧ b.toNat < 97) ∨ (97 ≤ b.toNat ∧ b.toNat ≤ 122) ∨ (122 < b.toNat)) with h | h | h | h | h | h | h
  all_goals
    first
      | have hR : letB b = true := decide_eq_true (by omega)
      | have hR : letB b = false := decide_eq_false (by omega)
    first
      | have hF : figW b = true := decide_eq_true (by omega)
      | have hF : figW b = false := decide_eq_false (by omega)
    first
      | rw [decide_eq_true (p := 97 ≤ b.toNat ∧ b.toNat ≤ 122) (by omega)] at cS
      | rw [decide_eq_false (p := 97 ≤ b.toNat ∧ b.toNat ≤ 122) (by omega)] at cS
    rw [hF] at cF
    rw [hR]
    clear hR hF
    first
      | have j3 : (b.toNat : Int) < 65 := by omega
      | have j3 : ¬ (b.toNat : Int) < 65 := by omega
    first
      | have j4 : (90 : Int) < (b.toNat : Int) := by omega
      | have j4 : ¬ (90 : Int) < (b.toNat : Int) := by omega
    first
      | have j5 : decide ((90 : Int) < (b.toNat : Int)) = true := decide_eq_true j4
      | have j5 : decide ((90 : Int) < (b.toNat : Int)) = false := decide_eq_false j4
    clear h
    go_enter Tryd.func12, Tryd.ntmps12
    go_wp2_with first
      | (go_at_call 19; go_fit (cS _); rintro e w1 ⟨rfl, rfl⟩)
      | (go_at_call 20; go_fit (cF _); rintro e w2 ⟨rfl, rfl⟩)
    go_ret
    exact ⟨by first | rfl | (rw [j5]; rfl) | (rw [decide_eq_false (show ¬ (b.toNat : Int) < 65 by omega)]; rfl) | (rw [decide_eq_true (show (b.toNat : Int) < 65 by omega)]; rfl), rfl⟩
end Go.Proofs.YtlonpaigfalbkaaDoor.Hub
