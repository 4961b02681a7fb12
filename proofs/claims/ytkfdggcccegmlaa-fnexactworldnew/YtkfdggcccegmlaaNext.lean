/-
  The model's l1Next: at a place within a text it answers what begins there, by the bytes from there on: the plain function nextN. No condition but that the place is within the text.
-/
import Derived.Test.YtkfdggcccegmlaaSigns
import Derived.Handy
namespace Go.Proofs.Ytkfdggcccegmlaa.Hub
open Go.RowKit
set_option linter.unusedVariables false
theorem ret_two {a b c d : Int} (h1 : a = c) (h2 : b = d) : Ending.returned (.tuple #[.int .i64 a, .int .i64 b]) = .returned (.tuple #[.int .i64 c, .int .i64 d]) := by rw [h1, h2]
theorem l1In_cont (b : Nat) (w : World) : Calls Try.prog 29 #[.int .i64 (b : Int), .int .i64 128, .int .i64 191] w fun e w' => e = .returned (.bool (contB b)) ∧ w' = w := by
  refine (l1In_any (b : Int) 128 191 w).mono ?_
  rintro e w' ⟨rfl, rfl⟩
  exact ⟨ret_bool (by unfold contB; rw [decide_eq_decide]; omega), rfl⟩
theorem finN_yes {n k : Int} (h : signB n = true) : finN n k = (n, k) := by unfold finN; rw [if_pos h]
theorem finN_no {n k : Int} (h : signB n = false) : finN n k = (0, 0) := by unfold finN; rw [h]; rfl

end Go.Proofs.Ytkfdggcccegmlaa.Hub
